import Derived.Test.YtihnkeflcnndpaaDoorPFi
namespace Go.Proofs.YtihnkeflcnndpaaDoor
open Go.RowKit Go.WideShapes Go.Shelf
set_option maxRecDepth 100000

theorem fdG_not {L : List (Nat × Nat)} {J : List Nat} {M : List (ByteArray × Nat)} {i x : Nat} (h : FdG L J M) (hb : FdB L J M i x) : x = 0 := by
  rcases hb with ⟨h1, _⟩ | ⟨_, h1, _⟩ | ⟨_, _, h1⟩ | ⟨_, _, _, h1⟩ | ⟨_, _, _, _, h1⟩
  · exact absurd h.enc h1
  · rw [h.fst] at h1
    cases h1
  · rcases h1 with ⟨_, h2, _⟩ | ⟨_, k, h3, h4, h5, h6, _⟩
    · exact h2
    · rw [← h6]
      exact h.ck k h3 i h4 h5
  · rcases h1 with ⟨_, h2, _⟩ | ⟨_, h3, h4, _⟩
    · exact h2
    · rw [h.jm i h3] at h4
      cases h4
  · rcases h1 with ⟨_, h2, _⟩ | ⟨_, h3, h4, _⟩
    · exact h2
    · rw [h.nm i h3] at h4
      cases h4
/-- the same, by reckoning -/
def ckAll (L : List (Nat × Nat)) : Bool := (List.range (prL L).length).all fun k => (List.range' ((prL L).getD k (0, 0, 0)).1 (((prL L).getD k (0, 0, 0)).2.1 - ((prL L).getD k (0, 0, 0)).1)).all fun j => errP L ((prL L).getD k (0, 0, 0)) j == 0
theorem ckAll_ok {L : List (Nat × Nat)} (h : ckAll L = true) : ∀ k, k < (prL L).length → OkP L (prL L) k := by
  intro k hk j h1 h2
  have := List.all_eq_true.1 (List.all_eq_true.1 h k (List.mem_range.2 hk)) j (List.mem_range'_1.2 ⟨h1, by omega⟩)
  exact eq_of_beq this
theorem fdG_of {L : List (Nat × Nat)} {J : List Nat} {M : List (ByteArray × Nat)} (h1 : encX L = 0) (h2 : isEn L 0 = true) (h3 : ckAll L = true) (h4 : ((List.range J.length).all fun j => okJ L J j) = true) (h5 : ((List.range M.length).all fun j => okN L M j) = true) : FdG L J M :=
  ⟨h1, h2, ckAll_ok h3, fun j hj => List.all_eq_true.1 h4 j (List.mem_range.2 hj), fun j hj => List.all_eq_true.1 h5 j (List.mem_range.2 hj)⟩
def codeV (L : List (Nat × Nat)) : Array Value := (cv L).toArray
theorem cv_all : ∀ (L : List (Nat × Nat)) (m : Nat), m < L.length → (cv L)[m * 2]? = some (.int .u8 ((L.getD m (0, 0)).1 : Nat)) ∧ (cv L)[m * 2 + 1]? = some (.int .u32 ((L.getD m (0, 0)).2 : Nat))
  | [], m, h => by simp at h
  | a :: t, 0, _ => ⟨rfl, rfl⟩
  | a :: t, m + 1, h => by
    have := cv_all t m (by simpa using h)
    rw [show (m + 1) * 2 + 1 = (m * 2 + 1) + 2 by omega, show (m + 1) * 2 = m * 2 + 2 by omega]
    simpa [cv] using this
theorem crd_block {w : World} {b : Nat} {cs : Array Value} {t : TypeId} {fr : Nat × Nat} (h : w.heap[b]? = some (.cells cs t fr)) (L : List (Nat × Nat)) (hc : cs.toList = cv L) : CRd w (some ⟨b, 0, none⟩) L w.heap.size := fun _ => ⟨b, 0, rfl, (Array.getElem?_eq_some_iff.1 h).1, fun j hj => by
  obtain ⟨e1, e2⟩ := cv_all L j hj
  rw [obj_cell h, obj_cell h, Nat.zero_add, ← Array.getElem?_toList, ← Array.getElem?_toList, hc]
  exact ⟨e1, e2⟩⟩
theorem jrd_block {w : World} {b : Nat} {cs : Array Value} {t : TypeId} {fr : Nat × Nat} (h : w.heap[b]? = some (.cells cs t fr)) (J : List Nat) (hc : cs.toList = J.map fun z : Nat => Value.int .u32 (z : Int)) : JRd w (some ⟨b, 0, none⟩) J w.heap.size := fun _ => ⟨b, 0, rfl, (Array.getElem?_eq_some_iff.1 h).1, fun j hj => by
  rw [obj_cell h, Nat.zero_add, ← Array.getElem?_toList, hc]
  simp [hj]⟩
def nv (M : List (ByteArray × Nat)) : List Value := M.flatMap fun p => [.string p.1, .int .u32 p.2]
theorem nv_all : ∀ (M : List (ByteArray × Nat)) (m : Nat), m < M.length → (nv M)[m * 2]? = some (.string (M.getD m (.empty, 0)).1) ∧ (nv M)[m * 2 + 1]? = some (.int .u32 ((M.getD m (.empty, 0)).2 : Nat))
  | [], m, h => by simp at h
  | a :: t, 0, _ => ⟨rfl, rfl⟩
  | a :: t, m + 1, h => by
    have := nv_all t m (by simpa using h)
    rw [show (m + 1) * 2 + 1 = (m * 2 + 1) + 2 by omega, show (m + 1) * 2 = m * 2 + 2 by omega]
    simpa [nv] using this
theorem nrd_block {w : World} {b : Nat} {cs : Array Value} {t : TypeId} {fr : Nat × Nat} (h : w.heap[b]? = some (.cells cs t fr)) (M : List (ByteArray × Nat)) (hc : cs.toList = nv M) : NRd w (some ⟨b, 0, none⟩) M w.heap.size := fun _ => ⟨b, 0, rfl, (Array.getElem?_eq_some_iff.1 h).1, fun j hj => by
  obtain ⟨e1, e2⟩ := nv_all M j hj
  rw [obj_cell h, obj_cell h, Nat.zero_add, ← Array.getElem?_toList, ← Array.getElem?_toList, hc]
  exact ⟨e1, e2⟩⟩
/-- the fixed code -/
abbrev smL : List (Nat × Nat) := [(3, 8), (8, 0), (4, 8), (3, 4), (8, 4), (7, 0), (8, 1), (4, 4)]
abbrev smN : List (ByteArray × Nat) := [(⟨#[102]⟩, 3)]
theorem smG : FdG smL [4, 6] smN := fdG_of (by decide +kernel) (by decide +kernel) (by decide +kernel) (by decide +kernel) (by decide +kernel)
set_option maxHeartbeats 2000000 in
theorem small_any (w : World) (hT : TabW w) (hp : 0 < w.heap.size) :
    Calls Tryd.prog 10 #[] w fun e w' => Below w.heap.size w w' ∧ ∃ (B pp p1 g1 p2 g2 : Nat) (lv : Value) (A C : List Nat), e = .returned (.pointer (some ⟨pp, 0, none⟩)) ∧ PrS w' B pp p1 g1 p2 g2 smL.length lv (prL smL) A C ∧ (∀ y, hasW A y = isEn smL y) ∧ (∀ y, hasW C y = decide (y ∈ [4, 6])) := by
  have HF : Hid (∀ (W : World) (b1 b2 b3 c1 c2 c3 : Nat), Below w.heap.size w W → CRd W (some ⟨b1, 0, none⟩) smL W.heap.size → JRd W (some ⟨b2, 0, none⟩) [4, 6] W.heap.size → NRd W (some ⟨b3, 0, none⟩) smN W.heap.size → Calls Tryd.prog 11 #[.slice (some ⟨b1, 0, none⟩) 8 c1, .slice (some ⟨b2, 0, none⟩) 2 c2, .slice (some ⟨b3, 0, none⟩) 1 c3] W (FdP W smL [4, 6] smN)) := hidS (fun W b1 b2 b3 c1 c2 c3 hW h1 h2 h3 =>
    find_any _ _ _ c1 c2 c3 smL [4, 6] smN W (by decide) (by decide) (by decide) (by unfold Wfc; decide) (by decide) (by decide) h1 h2 h3 (hT.below hW hp) (Nat.lt_of_lt_of_le hp hW.size))
  go_enter Tryd.func10, Tryd.ntmps10
  go_wp2_with fail
  obtain ⟨W, hW⟩ : ∃ W, ((w.alloc (Obj.cells #[.int .u8 3, .int .u32 8, .int .u8 8, .int .u32 0, .int .u8 4, .int .u32 8, .int .u8 3, .int .u32 4, .int .u8 8, .int .u32 4, .int .u8 7, .int .u32 0, .int .u8 8, .int .u32 1, .int .u8 4, .int .u32 4] 48)).alloc (Obj.cells #[.int .u32 4, .int .u32 6] 32)).alloc (Obj.cells #[.string ⟨#[102]⟩, .int .u32 3] 61) = W := ⟨_, rfl⟩
  have hb : Below w.heap.size w W := by rw [← hW]; exact belP (belP (belP (Below.refl _ _)))
  have o1 : W.heap[w.heap.size]? = some (Obj.cells #[.int .u8 3, .int .u32 8, .int .u8 8, .int .u32 0, .int .u8 4, .int .u32 8, .int .u8 3, .int .u32 4, .int .u8 8, .int .u32 4, .int .u8 7, .int .u32 0, .int .u8 8, .int .u32 1, .int .u8 4, .int .u32 4] 48) := by
    rw [← hW, Below.heap_alloc _ _ _ (by simp only [World.size_alloc]; omega), Below.heap_alloc _ _ _ (by simp only [World.size_alloc]; omega)]
    exact heap_alloc_new _ _
  have o2 : W.heap[w.heap.size + 1]? = some (Obj.cells #[.int .u32 4, .int .u32 6] 32) := by
    rw [← hW, Below.heap_alloc _ _ _ (by simp only [World.size_alloc]; omega)]
    have := heap_alloc_new (w.alloc (Obj.cells #[.int .u8 3, .int .u32 8, .int .u8 8, .int .u32 0, .int .u8 4, .int .u32 8, .int .u8 3, .int .u32 4, .int .u8 8, .int .u32 4, .int .u8 7, .int .u32 0, .int .u8 8, .int .u32 1, .int .u8 4, .int .u32 4] 48)) (Obj.cells #[.int .u32 4, .int .u32 6] 32)
    rw [World.size_alloc] at this
    exact this
  have o3 : W.heap[w.heap.size + 1 + 1]? = some (Obj.cells #[.string ⟨#[102]⟩, .int .u32 3] 61) := by
    have := heap_alloc_new ((w.alloc (Obj.cells #[.int .u8 3, .int .u32 8, .int .u8 8, .int .u32 0, .int .u8 4, .int .u32 8, .int .u8 3, .int .u32 4, .int .u8 8, .int .u32 4, .int .u8 7, .int .u32 0, .int .u8 8, .int .u32 1, .int .u8 4, .int .u32 4] 48)).alloc (Obj.cells #[.int .u32 4, .int .u32 6] 32)) (Obj.cells #[.string ⟨#[102]⟩, .int .u32 3] 61)
    rw [World.size_alloc, World.size_alloc] at this
    rw [← hW]
    exact this
  rw [hW]
  refine (HF.out W _ _ _ 8 2 1 hb (crd_block o1 smL rfl) (jrd_block o2 [4, 6] rfl) (nrd_block o3 smN rfl)).mono ?_
  clear hW o1 o2 o3 HF
  rintro e w1 ⟨hb1, ⟨i, x, rfl, hx, hB⟩ | ⟨B, pp, p1, g1, p2, g2, lv, A, C, rfl, hP, hA, hC, _, _, _⟩⟩
  · exact absurd (fdG_not smG hB) hx
  · have HR := hidS (And.intro (btP hb hb1) (And.intro hP (And.intro hA hC)))
    clear hP hA hC hb hb1
    go_wp2_with fail
    go_ret
    exact ⟨HR.out.1, B, pp, p1, g1, p2, g2, lv, A, C, rfl, HR.out.2.1, HR.out.2.2.1, HR.out.2.2.2⟩
end Go.Proofs.YtihnkeflcnndpaaDoor
