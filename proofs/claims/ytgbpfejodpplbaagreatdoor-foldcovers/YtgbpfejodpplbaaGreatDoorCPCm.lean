import Derived.Test.YtgbpfejodpplbaaGreatDoorCPIn
namespace Go.Proofs.YtgbpfejodpplbaaGreatDoor
open Go.RowKit Go.WideShapes Go.Shelf
set_option maxRecDepth 100000
attribute [local go_sem] Oper.semAt_some

/-- code that is read -/
def Cde (w : World) (ao : Option Addr) (L : List (Nat × Nat)) (B : Nat) : Prop :=
  0 < L.length → ∃ b off, ao = some ⟨b, off, none⟩ ∧ b < B ∧ ∀ j, j < L.length → w.cell? ⟨b, off + j * 2, none⟩ = some (.int .u8 (L.getD j (0, 0)).1) ∧ w.cell? ⟨b, off + j * 2 + 1, none⟩ = some (.int .u32 (L.getD j (0, 0)).2)
theorem Cde.below {w w' : World} {ao : Option Addr} {L : List (Nat × Nat)} {B : Nat} (h : Cde w ao L B) (hb : Below B w w') : Cde w' ao L B := by
  intro hl
  obtain ⟨b, off, e, hlt, hc⟩ := h hl
  exact ⟨b, off, e, hlt, fun j hj => ⟨(hb.cell (p := ⟨b, off + j * 2, none⟩) hlt).trans (hc j hj).1, (hb.cell (p := ⟨b, off + j * 2 + 1, none⟩) hlt).trans (hc j hj).2⟩⟩
theorem Cde.mono {w : World} {ao : Option Addr} {L : List (Nat × Nat)} {B C : Nat} (h : Cde w ao L B) (hb : B ≤ C) : Cde w ao L C := by
  intro hl
  obtain ⟨b, off, e, hlt, hc⟩ := h hl
  exact ⟨b, off, e, by omega, hc⟩
/-- is there an enter? -/
def isEn (L : List (Nat × Nat)) (i : Nat) : Bool := decide (i < L.length) && (L.getD i (0, 0)).1 == 3
/-- the operand of an instruction -/
def argL (L : List (Nat × Nat)) (i : Nat) : Nat := (L.getD i (0, 0)).2
/-- the procedures that begin at these places, the last one ends at n -/
def prs (L : List (Nat × Nat)) : List Nat → List (Nat × Nat × Nat)
  | [] => []
  | [b] => [(b, L.length, argL L b)]
  | b :: c :: t => (b, c, argL L b) :: prs L (c :: t)
theorem prs_len (L : List (Nat × Nat)) : ∀ l : List Nat, (prs L l).length = l.length
  | [] => rfl
  | [b] => rfl
  | b :: c :: t => by rw [prs, List.length_cons, prs_len L (c :: t)]; rfl
theorem prs_snoc (L : List (Nat × Nat)) : ∀ (l : List Nat) (b x : Nat), prs L (l ++ [b] ++ [x]) = (prs L (l ++ [b])).set l.length (b, x, argL L b) ++ [(x, L.length, argL L x)]
  | [], b, x => rfl
  | [a], b, x => rfl
  | a :: c :: t, b, x => by
    have := prs_snoc L (c :: t) b x
    simp only [List.cons_append, List.length_cons] at this ⊢
    rw [prs, this, prs]
    simp [List.set]
theorem prs_last (L : List (Nat × Nat)) : ∀ (l : List Nat) (b : Nat), (prs L (l ++ [b]))[l.length]? = some (b, L.length, argL L b)
  | [], b => rfl
  | [a], b => rfl
  | a :: c :: t, b => by
    have := prs_last L (c :: t) b
    simp only [List.cons_append, List.length_cons] at this ⊢
    rw [prs, List.getElem?_cons_succ]
    exact this
/-- procedures as values -/
def pv (P : List (Nat × Nat × Nat)) : List Value := P.flatMap fun p => [.int .u32 p.1, .int .u32 p.2.1, .int .u32 p.2.2, .int .i64 0]
theorem pv_append (P Q : List (Nat × Nat × Nat)) : pv (P ++ Q) = pv P ++ pv Q := by simp [pv]
theorem pv_len (P : List (Nat × Nat × Nat)) : (pv P).length = P.length * 4 := by
  induction P with
  | nil => rfl
  | cons a t ih => simp [pv] at ih ⊢; omega
theorem pv_get : ∀ (P : List (Nat × Nat × Nat)) (m : Nat) (p : Nat × Nat × Nat), P[m]? = some p → (pv P)[m * 4 + 1]? = some (.int .u32 (p.2.1 : Nat))
  | [], m, p, h => by simp at h
  | a :: t, 0, p, h => by simp at h; subst h; rfl
  | a :: t, m + 1, p, h => by
    have := pv_get t m p (by simpa using h)
    rw [show (m + 1) * 4 + 1 = (m * 4 + 1) + 4 by omega]
    simpa [pv] using this
theorem pv_set : ∀ (P : List (Nat × Nat × Nat)) (m : Nat) (p : Nat × Nat × Nat) (x : Nat), P[m]? = some p → (pv P).set (m * 4 + 1) (.int .u32 (x : Int)) = pv (P.set m (p.1, x, p.2.2))
  | [], m, p, x, h => by simp at h
  | a :: t, 0, p, x, h => by simp at h; subst h; rfl
  | a :: t, m + 1, p, x, h => by
    have := pv_set t m p x (by simpa using h)
    rw [show (m + 1) * 4 + 1 = (m * 4 + 1) + 4 by omega]
    simpa [pv] using this
theorem empty_any (n : Nat) (w : World) (hn : n ≤ 1048576) :
    Calls Tryz.prog 46 #[.int .i64 n] w fun e w' => ∃ p g, e = .returned (.pointer (some ⟨p, 0, none⟩)) ∧ SetS w' p g n (List.replicate ((n + 63) / 64) 0) ∧ w.heap.size ≤ p ∧ w.heap.size ≤ g ∧ Below w.heap.size w w' := by
  have hA := newset_any n w hn
  go_enter Tryz.func46, Tryz.ntmps46
  go_wp2_with (go_at_call 66; with_reducible refine hA.mono ?_; rintro e w1 ⟨p, g, rfl, h1, h2, h3, h4⟩)
  go_ret
  exact ⟨p, g, rfl, h1, h2, h3, h4⟩
/-- a box that stands -/
def InS (k : Nat) (v : Value) (V : World) : Prop := k < V.heap.size ∧ V.cell? ⟨k, 0, none⟩ = some v
theorem InS.out {k : Nat} {v : Value} {V : World} (h : InS k v V) : k < V.heap.size ∧ V.cell? ⟨k, 0, none⟩ = some v := h
theorem InS.below {k : Nat} {v : Value} {A B : World} (hb : Below A.heap.size A B) (h : InS k v A) : InS k v B := ⟨Nat.lt_of_lt_of_le h.1 hb.size, (hb.cell (p := ⟨k, 0, none⟩) h.1).trans h.2⟩
theorem InS.alloc {k : Nat} {v : Value} {A : World} (o : Obj) (h : InS k v A) : InS k v (A.alloc o) := h.below ((Below.refl _ A).alloc (Nat.le_refl _) o)
theorem InS.drew {k : Nat} {v : Value} {A : World} (h : InS k v A) : InS k v A.drew := h
theorem InS.set {k : Nat} {v : Value} {A : World} {a : Addr} (u : Value) (hk : k ≠ a.block) (h : InS k v A) : InS k v (A.setCell a u) := ⟨by simp; exact h.1, (World.cell?_of_block (w := A) (Below.heap_setCell _ _ _ _ hk)).trans h.2⟩
theorem with_tmpsP {F : Fence} {n : Nat} {P : Program} {c : Code} {Q : Exit → Act → World → Prop} {ts : Array Value} {ds : List Deferred} {w : World} (h : ∀ T, T = ts → c.wpIn F n P Q { tmps := T, defers := ds } w) : c.wpIn F n P Q { tmps := ts, defers := ds } w := h _ rfl
/-- what cut has made -/
structure CutI (w V : World) (kC kP pp p1 g1 p2 g2 : Nat) (ao : Option Addr) (cap : Nat) (L : List (Nat × Nat)) (sv lv : Value) (A B : List Nat) : Prop where
  bC : Boxed V kC 22 (.slice ao L.length cap)
  bP : Boxed V kP 49 (.pointer (some ⟨pp, 0, none⟩))
  obj : V.heap[pp]? = some (.cells #[sv, lv, .pointer (some ⟨p1, 0, none⟩), .pointer (some ⟨p2, 0, none⟩)] 111 (0, 0))
  s1 : SetS V p1 g1 L.length A
  s2 : SetS V p2 g2 L.length B
  bel : Below w.heap.size w V
  nd : [kC, kP, pp, p1, g1, p2, g2].Nodup
  lo : ∀ k ∈ [kC, kP, pp, p1, g1, p2, g2], w.heap.size ≤ k
theorem CutI.ne {w V : World} {kC kP pp p1 g1 p2 g2 : Nat} {ao : Option Addr} {cap : Nat} {L : List (Nat × Nat)} {sv lv : Value} {A B : List Nat} (h : CutI w V kC kP pp p1 g1 p2 g2 ao cap L sv lv A B) :
    (kC ≠ kP ∧ kC ≠ pp ∧ kC ≠ p1 ∧ kC ≠ g1 ∧ kC ≠ p2 ∧ kC ≠ g2) ∧ (kP ≠ pp ∧ kP ≠ p1 ∧ kP ≠ g1 ∧ kP ≠ p2 ∧ kP ≠ g2) ∧ (pp ≠ p1 ∧ pp ≠ g1 ∧ pp ≠ p2 ∧ pp ≠ g2) ∧ (p1 ≠ g1 ∧ p1 ≠ p2 ∧ p1 ≠ g2) ∧ (g1 ≠ p2 ∧ g1 ≠ g2) ∧ p2 ≠ g2 := by
  have := h.nd
  simp only [List.nodup_cons, List.mem_cons, List.not_mem_nil, or_false, not_or] at this
  obtain ⟨a, b, c, d, e, f, _⟩ := this
  exact ⟨a, b, c, d, e, f⟩
theorem CutI.low {w V : World} {kC kP pp p1 g1 p2 g2 : Nat} {ao : Option Addr} {cap : Nat} {L : List (Nat × Nat)} {sv lv : Value} {A B : List Nat} (h : CutI w V kC kP pp p1 g1 p2 g2 ao cap L sv lv A B) :
    w.heap.size ≤ kC ∧ w.heap.size ≤ kP ∧ w.heap.size ≤ pp ∧ w.heap.size ≤ p1 ∧ w.heap.size ≤ g1 ∧ w.heap.size ≤ p2 ∧ w.heap.size ≤ g2 := by
  have := h.lo
  simp only [List.mem_cons, List.not_mem_nil, or_false, forall_eq_or_imp, forall_eq] at this
  exact this
theorem CutI.keep {w V V' : World} {kC kP pp p1 g1 p2 g2 : Nat} {ao : Option Addr} {cap : Nat} {L : List (Nat × Nat)} {sv lv : Value} {A B : List Nat} {S : Nat → Prop} (h : CutI w V kC kP pp p1 g1 p2 g2 ao cap L sv lv A B) (hk : Kp S V V')
    (hS : ∀ k ∈ [kC, kP, pp, p1, g1, p2, g2], ¬ S k) (hl : ∀ k, S k → w.heap.size ≤ k) : CutI w V' kC kP pp p1 g1 p2 g2 ao cap L sv lv A B :=
  ⟨(hk.block kC h.bC.lt (hS kC (by simp))).trans h.bC, (hk.block kP h.bP.lt (hS kP (by simp))).trans h.bP, (hk.block pp (Array.getElem?_eq_some_iff.1 h.obj).1 (hS pp (by simp))).trans h.obj,
    h.s1.kept hk (hS p1 (by simp)) (hS g1 (by simp)), h.s2.kept hk (hS p2 (by simp)) (hS g2 (by simp)), h.bel.trans (hk.below h.bel.size hl), h.nd, h.lo⟩
theorem CutI.alloc {w V : World} {kC kP pp p1 g1 p2 g2 : Nat} {ao : Option Addr} {cap : Nat} {L : List (Nat × Nat)} {sv lv : Value} {A B : List Nat} (h : CutI w V kC kP pp p1 g1 p2 g2 ao cap L sv lv A B) (o : Obj) : CutI w (V.alloc o) kC kP pp p1 g1 p2 g2 ao cap L sv lv A B :=
  h.keep (Kp.alloc (S := fun _ => False) V o) (fun _ _ e => e) (fun _ e => e.elim)
theorem CutI.putA {w V V' : World} {kC kP pp p1 g1 p2 g2 : Nat} {ao : Option Addr} {cap : Nat} {L : List (Nat × Nat)} {sv lv : Value} {A A' B : List Nat} (h : CutI w V kC kP pp p1 g1 p2 g2 ao cap L sv lv A B) (hs : SetS V' p1 g1 L.length A') (hk : Kp (fun k => k = p1 ∨ k = g1) V V') : CutI w V' kC kP pp p1 g1 p2 g2 ao cap L sv lv A' B := by
  obtain ⟨⟨_, _, a3, a4, _, _⟩, ⟨_, b3, b4, _, _⟩, ⟨c1, c2, _, _⟩, ⟨_, d2, d3⟩, ⟨e1, e2⟩, _⟩ := h.ne
  obtain ⟨_, _, _, l4, l5, _, _⟩ := h.low
  exact ⟨(hk.block kC h.bC.lt (by omega)).trans h.bC, (hk.block kP h.bP.lt (by omega)).trans h.bP, (hk.block pp (Array.getElem?_eq_some_iff.1 h.obj).1 (by omega)).trans h.obj,
    hs, h.s2.kept hk (by omega) (by omega), h.bel.trans (hk.below h.bel.size (fun i e => by omega)), h.nd, h.lo⟩
theorem CutI.self {w V : World} {kC kP pp p1 g1 p2 g2 : Nat} {ao : Option Addr} {cap : Nat} {L : List (Nat × Nat)} {sv lv : Value} {A B : List Nat} (h : CutI w V kC kP pp p1 g1 p2 g2 ao cap L sv lv A B) (u : Value) : CutI w (V.setCell ⟨pp, 0, none⟩ u) kC kP pp p1 g1 p2 g2 ao cap L u lv A B := by
  obtain ⟨⟨_, a2, _, _, _, _⟩, ⟨b1, _, _, _, _⟩, ⟨c1, c2, c3, c4⟩, _⟩ := h.ne
  have hk := Kp.setCell (S := fun k => k = pp) V ⟨pp, 0, none⟩ u rfl
  exact ⟨(hk.block kC h.bC.lt a2).trans h.bC, (hk.block kP h.bP.lt b1).trans h.bP, by rw [heap_setCell_same V pp 0 _ _ _ h.obj]; rfl,
    h.s1.kept hk (fun e => c1 e.symm) (fun e => c2 e.symm), h.s2.kept hk (fun e => c3 e.symm) (fun e => c4 e.symm), h.bel.trans (hk.below h.bel.size (fun i e => by have := h.low; omega)), h.nd, h.lo⟩
abbrev CutS (w V : World) (kC kP pp p1 g1 p2 g2 : Nat) (ao : Option Addr) (cap : Nat) (L : List (Nat × Nat)) : Prop := CutI w V kC kP pp p1 g1 p2 g2 ao cap L (.pointer none) (.slice none 0 0) (List.replicate ((L.length + 63) / 64) 0) (List.replicate ((L.length + 63) / 64) 0)
theorem box_newd (W : World) (t : Nat) (v : Value) : Boxed (W.alloc (.cells #[v] t)).drew W.heap.size t v := Boxed.new W t v
theorem box_thru {A B : World} {k t : Nat} {v : Value} (hb : Below A.heap.size A B) (h : Boxed A k t v) : Boxed B k t v := (hb.block k h.lt).trans h
theorem has_putP {bound : Nat} {ws : List Nat} {x : Nat} (hl : ws.length = (bound + 63) / 64) (hx : x < bound) (y : Nat) : hasW (putW bound ws x) y = (hasW ws y || decide (y = x)) := by
  unfold putW
  by_cases h : hasW ws x = false
  · rw [if_pos ⟨hx, h⟩, hasW_flip (by omega)]
    by_cases he : y = x
    · subst he; simp [h]
    · simp [he]
  · rw [if_neg (fun q => h q.2)]
    by_cases he : y = x
    · subst he; simpa using h
    · simp [he]
end Go.Proofs.YtgbpfejodpplbaaGreatDoor
namespace Go.Proofs.YtgbpfejodpplbaaGreatDoor
open Go.RowKit Go.WideShapes Go.Shelf
set_option maxRecDepth 100000

/-- Procs in memory -/
structure PrS (w : World) (B pp p1 g1 p2 g2 n : Nat) (lv : Value) (Ps : List (Nat × Nat × Nat)) (A C : List Nat) : Prop where
  obj : w.heap[pp]? = some (.cells #[.pointer (some ⟨pp, 0, none⟩), lv, .pointer (some ⟨p1, 0, none⟩), .pointer (some ⟨p2, 0, none⟩)] 111 (0, 0))
  row : w.ownsRow B 94 4 lv Ps.length (pv Ps)
  s1 : SetS w p1 g1 n A
  s2 : SetS w p2 g2 n C
  nd : [pp, p1, g1, p2, g2].Nodup
  lt : ∀ k ∈ [pp, p1, g1, p2, g2], k < B
end Go.Proofs.YtgbpfejodpplbaaGreatDoor
