import Derived.Test.YtibjjlogdepgjaaDLg
namespace Go.Proofs.Ytibjjlogdepgjaa
open Go.RowKit Go.WideShapes
set_option maxRecDepth 100000

theorem cvD_get (L : List (Nat × Nat)) : ∀ j, j < L.length → (cv L)[j * 2]? = some (.int .u8 (L.getD j (0, 0)).1) ∧ (cv L)[j * 2 + 1]? = some (.int .u32 (L.getD j (0, 0)).2) := by
  induction L with
  | nil => intro j hj; simp at hj
  | cons p L ih =>
    intro j hj
    cases j with
    | zero => exact ⟨rfl, rfl⟩
    | succ j =>
      have := ih j (by simpa using hj)
      rw [show cv (p :: L) = .int .u8 p.1 :: .int .u32 p.2 :: cv L from rfl, show (j + 1) * 2 = j * 2 + 1 + 1 by omega, show (p :: L).getD (j + 1) (0, 0) = L.getD j (0, 0) from rfl]
      exact this
/-- code that lies in a block of its own is read -/
theorem crd_blkD {w : World} {b : Nat} {cs : Array Value} {t : TypeId} {L : List (Nat × Nat)} (h : w.heap[b]? = some (.cells cs t)) (hcs : cs.toList = cv L) : CRd w (some ⟨b, 0, none⟩) L w.heap.size := by
  intro _
  refine ⟨b, 0, rfl, (Array.getElem?_eq_some_iff.1 h).1, fun j hj => ?_⟩
  have := cvD_get L j hj
  rw [← hcs] at this
  rw [Nat.zero_add, obj_cell h, obj_cell h]
  simpa using this
def awL : List (Nat × Nat) := [(8, 2), (8, 3), (41, 0), (38, 0), (31, 0)]
theorem awL_wf : Wfc awL := by unfold Wfc awL; decide +kernel
theorem aw1 : lnP awL 0 5 = (0, 4, 2, 4294967290) ∧ lnE awL 0 5 = 0 := by decide +kernel
theorem aw2 : lnP awL 4 5 = (4, 1, 1, 0) ∧ lnE awL 4 5 = 0 := by decide +kernel
abbrev awC : Array Value := #[.int .u8 8, .int .u32 2, .int .u8 8, .int .u32 3, .int .u8 41, .int .u32 0, .int .u8 38, .int .u32 0, .int .u8 31, .int .u32 0]
theorem aw1_call (b : Nat) (w : World) (h : w.heap[b]? = some (.cells awC 26)) :
    Calls Try.prog 7 #[.slice (some ⟨b, 0, none⟩) 5 5, .int .u32 0, .int .u32 5] w fun x w' => x = .returned (.tuple #[.agg #[.int .u32 0, .int .u32 4, .int .u8 2, .int .u32 4294967290], .int .i64 0]) ∧ Below w.heap.size w w' := by
  have := Longest_any (some ⟨b, 0, none⟩) 5 0 5 awL w (by decide) (by decide) (by decide) (by decide) awL_wf (crd_blkD h rfl)
  rw [aw1.1, aw1.2] at this
  exact this
theorem aw2_call (b : Nat) (w : World) (h : w.heap[b]? = some (.cells awC 26)) :
    Calls Try.prog 7 #[.slice (some ⟨b, 0, none⟩) 5 5, .int .u32 4, .int .u32 5] w fun x w' => x = .returned (.tuple #[.agg #[.int .u32 4, .int .u32 1, .int .u8 1, .int .u32 0], .int .i64 0]) ∧ Below w.heap.size w w' := by
  have := Longest_any (some ⟨b, 0, none⟩) 5 4 5 awL w (by decide) (by decide) (by decide) (by decide) awL_wf (crd_blkD h rfl)
  rw [aw2.1, aw2.2] at this
  exact this
theorem at_pc {P : Program} {ops : Array Oper} {Q : Exit → Act → World → Prop} {rest : List Oper} {o : Oper} {a : Act} {w : World} {p q : Operand} (_ho : o.op = .store 30 p q) (h : wpList P ops Q (o :: rest) a w) : wpList P ops Q (o :: rest) a w := h
set_option maxHeartbeats 1000000 in
theorem fawake_any (w : World) : Calls Try.prog 5 #[] w fun x w' => x = .returned (.bool true) ∧ Below w.heap.size w w' := by
  have hbd : Below w.heap.size w w := Below.refl _ _
  have H1 := dhid (fun o => aw1_call w.heap.size (w.alloc o))
  go_enter Try.func5, Try.ntmps5
  go_wp2_with fail
  with_reducible refine (H1.out _ ?_).mono ?_
  · exact heap_alloc_new w _
  rintro x w1 ⟨rfl, hb1⟩
  have o1 := dhid ((hb1.block w.heap.size (by simp)).trans (heap_alloc_new w _))
  have hB1 := dhid ((hbd.alloc (Nat.le_refl _) _).trans (hb1.mono (by simp)))
  have hz1 := hb1.size
  simp at hz1
  have H2 := dhid (fun o => aw2_call w.heap.size (w1.alloc o) ((Below.heap_alloc _ _ _ (by omega)).trans o1.out))
  clear H1
  go_wp2_with fail
  with_reducible refine (H2.out _).mono ?_
  rintro x w2 ⟨rfl, hb2⟩
  have p2 := dhid ((hb2.block w1.heap.size (by simp)).trans (heap_alloc_new w1 _))
  have hB2 := dhid ((hB1.out.alloc hB1.out.size _).trans (hb2.mono (by simp; omega)))
  clear H2
  have p3 := setRow_heap w2 w1.heap.size _ #[.int .u32 4, .int .u32 1, .int .u8 1, .int .u32 0] _ _ p2.out
  have e0 := obj_cell p3 0
  have e1 := obj_cell p3 1
  have e2 := obj_cell p3 2
  have e3 := obj_cell p3 3
  simp only [List.getElem?_toArray, List.getElem?_cons_zero, List.getElem?_cons_succ] at e0 e1 e2 e3
  replace p3 := trivial
  go_wp2_with (refine wpList_store_rowD rfl _ _ _ rfl w1.heap.size _ #[.int .u32 4, .int .u32 1, .int .u8 1, .int .u32 0] rfl rfl p2.out (by rw [sizeDPc]; rfl) rfl (by simp [Value.oneCell']) ?_)
  go_ret
  exact ⟨rfl, hB2.out.trans ((KpSetRow (S := fun k => k = w1.heap.size) _ w1.heap.size _ rfl).below hB2.out.size (fun i e => by omega))⟩
end Go.Proofs.Ytibjjlogdepgjaa
