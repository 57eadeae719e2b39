import Derived.Test.YtihnkeflcnndpaaDoorPFi
import Derived.Test.YtihnkeflcnndpaaDoorCPFa
namespace Go.Proofs.YtihnkeflcnndpaaDoor
open Go.RowKit Go.WideShapes Go.Shelf
set_option maxRecDepth 100000

theorem fdG_not {L : List (Nat × Nat)} {J : List Nat} {M : List (ByteArray × Nat)} {i x : Nat} (h : FdG L J M) (hb : FdB L J M i x) : x = 0 := by
  rcases hb with ⟨h1, _⟩ | ⟨_, h1, _⟩ | ⟨_, _, h1⟩ | ⟨_, _, _, h1⟩ | ⟨_, _, _, _, h1⟩
  · exact absurd h.enc h1
  · rw [h.fst] at h1
    cases h1
  · rcases h1 with ⟨_, h2, _⟩ | ⟨_, k, h3, h4, h5, h6, _⟩
    · exact h2
    · rw [← h6]
      exact h.ck k h3 i h4 h5
  · rcases h1 with ⟨_, h2, _⟩ | ⟨_, h3, h4, _⟩
    · exact h2
    · rw [h.jm i h3] at h4
      cases h4
  · rcases h1 with ⟨_, h2, _⟩ | ⟨_, h3, h4, _⟩
    · exact h2
    · rw [h.nm i h3] at h4
      cases h4
/-- the same, by reckoning -/
def ckAll (L : List (Nat × Nat)) : Bool := (List.range (prL L).length).all fun k => (List.range' ((prL L).getD k (0, 0, 0)).1 (((prL L).getD k (0, 0, 0)).2.1 - ((prL L).getD k (0, 0, 0)).1)).all fun j => errP L ((prL L).getD k (0, 0, 0)) j == 0
theorem ckAll_ok {L : List (Nat × Nat)} (h : ckAll L = true) : ∀ k, k < (prL L).length → OkP L (prL L) k := by
  intro k hk j h1 h2
  have := List.all_eq_true.1 (List.all_eq_true.1 h k (List.mem_range.2 hk)) j (List.mem_range'_1.2 ⟨h1, by omega⟩)
  exact eq_of_beq this
theorem fdG_of {L : List (Nat × Nat)} {J : List Nat} {M : List (ByteArray × Nat)} (h1 : encX L = 0) (h2 : isEn L 0 = true) (h3 : ckAll L = true) (h4 : ((List.range J.length).all fun j => okJ L J j) = true) (h5 : ((List.range M.length).all fun j => okN L M j) = true) : FdG L J M :=
  ⟨h1, h2, ckAll_ok h3, fun j hj => List.all_eq_true.1 h4 j (List.mem_range.2 hj), fun j hj => List.all_eq_true.1 h5 j (List.mem_range.2 hj)⟩
def codeV (L : List (Nat × Nat)) : Array Value := (cv L).toArray
theorem cv_all : ∀ (L : List (Nat × Nat)) (m : Nat), m < L.length → (cv L)[m * 2]? = some (.int .u8 ((L.getD m (0, 0)).1 : Nat)) ∧ (cv L)[m * 2 + 1]? = some (.int .u32 ((L.getD m (0, 0)).2 : Nat))
  | [], m, h => by simp at h
  | a :: t, 0, _ => ⟨rfl, rfl⟩
  | a :: t, m + 1, h => by
    have := cv_all t m (by simpa using h)
    rw [show (m + 1) * 2 + 1 = (m * 2 + 1) + 2 by omega, show (m + 1) * 2 = m * 2 + 2 by omega]
    simpa [cv] using this
theorem crd_block {w : World} {b : Nat} {cs : Array Value} {t : TypeId} {fr : Nat × Nat} (h : w.heap[b]? = some (.cells cs t fr)) (L : List (Nat × Nat)) (hc : cs.toList = cv L) : CRd w (some ⟨b, 0, none⟩) L w.heap.size := fun _ => ⟨b, 0, rfl, (Array.getElem?_eq_some_iff.1 h).1, fun j hj => by
  obtain ⟨e1, e2⟩ := cv_all L j hj
  rw [obj_cell h, obj_cell h, Nat.zero_add, ← Array.getElem?_toList, ← Array.getElem?_toList, hc]
  exact ⟨e1, e2⟩⟩
theorem jrd_block {w : World} {b : Nat} {cs : Array Value} {t : TypeId} {fr : Nat × Nat} (h : w.heap[b]? = some (.cells cs t fr)) (J : List Nat) (hc : cs.toList = J.map fun z : Nat => Value.int .u32 (z : Int)) : JRd w (some ⟨b, 0, none⟩) J w.heap.size := fun _ => ⟨b, 0, rfl, (Array.getElem?_eq_some_iff.1 h).1, fun j hj => by
  rw [obj_cell h, Nat.zero_add, ← Array.getElem?_toList, hc]
  simp [hj]⟩
def nv (M : List (ByteArray × Nat)) : List Value := M.flatMap fun p => [.string p.1, .int .u32 p.2]
theorem nv_all : ∀ (M : List (ByteArray × Nat)) (m : Nat), m < M.length → (nv M)[m * 2]? = some (.string (M.getD m (.empty, 0)).1) ∧ (nv M)[m * 2 + 1]? = some (.int .u32 ((M.getD m (.empty, 0)).2 : Nat))
  | [], m, h => by simp at h
  | a :: t, 0, _ => ⟨rfl, rfl⟩
  | a :: t, m + 1, h => by
    have := nv_all t m (by simpa using h)
    rw [show (m + 1) * 2 + 1 = (m * 2 + 1) + 2 by omega, show (m + 1) * 2 = m * 2 + 2 by omega]
    simpa [nv] using this
theorem nrd_block {w : World} {b : Nat} {cs : Array Value} {t : TypeId} {fr : Nat × Nat} (h : w.heap[b]? = some (.cells cs t fr)) (M : List (ByteArray × Nat)) (hc : cs.toList = nv M) : NRd w (some ⟨b, 0, none⟩) M w.heap.size := fun _ => ⟨b, 0, rfl, (Array.getElem?_eq_some_iff.1 h).1, fun j hj => by
  obtain ⟨e1, e2⟩ := nv_all M j hj
  rw [obj_cell h, obj_cell h, Nat.zero_add, ← Array.getElem?_toList, ← Array.getElem?_toList, hc]
  exact ⟨e1, e2⟩⟩
/-- the fixed code -/
abbrev smL : List (Nat × Nat) := [(3, 8), (8, 0), (4, 8), (3, 4), (8, 4), (7, 0), (8, 1), (4, 4)]
abbrev smN : List (ByteArray × Nat) := [(⟨#[102]⟩, 3)]
theorem smG : FdG smL [4, 6] smN := fdG_of (by decide +kernel) (by decide +kernel) (by decide +kernel) (by decide +kernel) (by decide +kernel)
set_option maxHeartbeats 2000000 in
theorem small_any (w : World) (hT : TabW w) (hp : 0 < w.heap.size) :
    Calls Tryd.prog 10 #[] w fun e w' => Below w.heap.size w w' ∧ ∃ (B pp p1 g1 p2 g2 : Nat) (lv : Value) (A C : List Nat), e = .returned (.pointer (some ⟨pp, 0, none⟩)) ∧ PrS w' B pp p1 g1 p2 g2 smL.length lv (prL smL) A C ∧ (∀ y, hasW A y = isEn smL y) ∧ (∀ y, hasW C y = decide (y ∈ [4, 6])) := by
  have HF : Hid (∀ (W : World) (b1 b2 b3 c1 c2 c3 : Nat), Below w.heap.size w W → CRd W (some ⟨b1, 0, none⟩) smL W.heap.size → JRd W (some ⟨b2, 0, none⟩) [4, 6] W.heap.size → NRd W (some ⟨b3, 0, none⟩) smN W.heap.size → Calls Tryd.prog 11 #[.slice (some ⟨b1, 0, none⟩) 8 c1, .slice (some ⟨b2, 0, none⟩) 2 c2, .slice (some ⟨b3, 0, none⟩) 1 c3] W (FdP W smL [4, 6] smN)) := hidS (fun W b1 b2 b3 c1 c2 c3 hW h1 h2 h3 =>
    find_any _ _ _ c1 c2 c3 smL [4, 6] smN W (by decide) (by decide) (by decide) (by unfold Wfc; decide) (by decide) (by decide) h1 h2 h3 (hT.below hW hp) (Nat.lt_of_lt_of_le hp hW.size))
  go_enter Tryd.func10, Tryd.ntmps10
  go_wp2_with fail
  obtain ⟨W, hW⟩ : ∃ W, ((w.alloc (Obj.cells #[.int .u8 3, .int .u32 8, .int .u8 8, .int .u32 0, .int .u8 4, .int .u32 8, .int .u8 3, .int .u32 4, .int .u8 8, .int .u32 4, .int .u8 7, .int .u32 0, .int .u8 8, .int .u32 1, .int .u8 4, .int .u32 4] 48)).alloc (Obj.cells #[.int .u32 4, .int .u32 6] 32)).alloc (Obj.cells #[.string ⟨#[102]⟩, .int .u32 3] 61) = W := ⟨_, rfl⟩
  have hb : Below w.heap.size w W := by rw [← hW]; exact belP (belP (belP (Below.refl _ _)))
  have o1 : W.heap[w.heap.size]? = some (Obj.cells #[.int .u8 3, .int .u32 8, .int .u8 8, .int .u32 0, .int .u8 4, .int .u32 8, .int .u8 3, .int .u32 4, .int .u8 8, .int .u32 4, .int .u8 7, .int .u32 0, .int .u8 8, .int .u32 1, .int .u8 4, .int .u32 4] 48) := by
    rw [← hW, Below.heap_alloc _ _ _ (by simp only [World.size_alloc]; omega), Below.heap_alloc _ _ _ (by simp only [World.size_alloc]; omega)]
    exact heap_alloc_new _ _
  have o2 : W.heap[w.heap.size + 1]? = some (Obj.cells #[.int .u32 4, .int .u32 6] 32) := by
    rw [← hW, Below.heap_alloc _ _ _ (by simp only [World.size_alloc]; omega)]
    have := heap_alloc_new (w.alloc (Obj.cells #[.int .u8 3, .int .u32 8, .int .u8 8, .int .u32 0, .int .u8 4, .int .u32 8, .int .u8 3, .int .u32 4, .int .u8 8, .int .u32 4, .int .u8 7, .int .u32 0, .int .u8 8, .int .u32 1, .int .u8 4, .int .u32 4] 48)) (Obj.cells #[.int .u32 4, .int .u32 6] 32)
    rw [World.size_alloc] at this
    exact this
  have o3 : W.heap[w.heap.size + 1 + 1]? = some (Obj.cells #[.string ⟨#[102]⟩, .int .u32 3] 61) := by
    have := heap_alloc_new ((w.alloc (Obj.cells #[.int .u8 3, .int .u32 8, .int .u8 8, .int .u32 0, .int .u8 4, .int .u32 8, .int .u8 3, .int .u32 4, .int .u8 8, .int .u32 4, .int .u8 7, .int .u32 0, .int .u8 8, .int .u32 1, .int .u8 4, .int .u32 4] 48)).alloc (Obj.cells #[.int .u32 4, .int .u32 6] 32)) (Obj.cells #[.string ⟨#[102]⟩, .int .u32 3] 61)
    rw [World.size_alloc, World.size_alloc] at this
    rw [← hW]
    exact this
  rw [hW]
  refine (HF.out W _ _ _ 8 2 1 hb (crd_block o1 smL rfl) (jrd_block o2 [4, 6] rfl) (nrd_block o3 smN rfl)).mono ?_
  clear hW o1 o2 o3 HF
  rintro e w1 ⟨hb1, ⟨i, x, rfl, hx, hB⟩ | ⟨B, pp, p1, g1, p2, g2, lv, A, C, rfl, hP, hA, hC, _, _, _⟩⟩
  · exact absurd (fdG_not smG hB) hx
  · have HR := hidS (And.intro (btP hb hb1) (And.intro hP (And.intro hA hC)))
    clear hP hA hC hb hb1
    go_wp2_with fail
    go_ret
    exact ⟨HR.out.1, B, pp, p1, g1, p2, g2, lv, A, C, rfl, HR.out.2.1, HR.out.2.2.1, HR.out.2.2.2⟩
end Go.Proofs.YtihnkeflcnndpaaDoor
namespace Go.Proofs.YtihnkeflcnndpaaDoor
open Go.RowKit Go.WideShapes Go.Shelf
set_option maxRecDepth 100000

theorem ckR_det {L : List (Nat × Nat)} {Ps : List (Nat × Nat × Nat)} {i x i' x' : Nat} (h : CkR L Ps i x) (h' : CkR L Ps i' x') : i = i' ∧ x = x' := by
  rcases h with ⟨a1, a2, a3⟩ | ⟨a1, k, a2, a3, a4, a5, a6, a7⟩
  · rcases h' with ⟨b1, b2, b3⟩ | ⟨b1, k', b2, b3, b4, b5, b6, b7⟩
    · exact ⟨by omega, by omega⟩
    · exact absurd ((b5.symm.trans (a3 k' b2 i' b3 b4))) b1
  · rcases h' with ⟨b1, b2, b3⟩ | ⟨b1, k', b2, b3, b4, b5, b6, b7⟩
    · exact absurd ((a5.symm.trans (b3 k a2 i a3 a4))) a1
    · rcases Nat.lt_trichotomy k k' with h | h | h
      · exact absurd (a5.symm.trans (b7 k h i a3 a4)) a1
      · subst h
        rcases Nat.lt_trichotomy i i' with h | h | h
        · exact absurd (a5.symm.trans (b6 i a3 h)) a1
        · subst h
          exact ⟨rfl, a5.symm.trans b5⟩
        · exact absurd (b5.symm.trans (a6 i' b3 h)) b1
      · exact absurd (b5.symm.trans (a7 k' h i' b3 b4)) b1
theorem jmR_det {L : List (Nat × Nat)} {J : List Nat} {i x i' x' : Nat} (h : JmR L J i x) (h' : JmR L J i' x') : i = i' ∧ x = x' := by
  rcases h with ⟨a1, a2, a3⟩ | ⟨a1, a2, a3, a4⟩
  · rcases h' with ⟨b1, b2, b3⟩ | ⟨b1, b2, b3, b4⟩
    · exact ⟨by omega, by omega⟩
    · rw [a3 i' b2] at b3
      cases b3
  · rcases h' with ⟨b1, b2, b3⟩ | ⟨b1, b2, b3, b4⟩
    · rw [b3 i a2] at a3
      cases a3
    · rcases Nat.lt_trichotomy i i' with h | h | h
      · rw [b4 i h] at a3
        cases a3
      · exact ⟨h, by omega⟩
      · rw [a4 i' h] at b3
        cases b3
theorem nmR_det {L : List (Nat × Nat)} {M : List (ByteArray × Nat)} {i x i' x' : Nat} (h : NmR L M i x) (h' : NmR L M i' x') : i = i' ∧ x = x' := by
  rcases h with ⟨a1, a2, a3⟩ | ⟨a1, a2, a3, a4⟩
  · rcases h' with ⟨b1, b2, b3⟩ | ⟨b1, b2, b3, b4⟩
    · exact ⟨by omega, by omega⟩
    · rw [a3 i' b2] at b3
      cases b3
  · rcases h' with ⟨b1, b2, b3⟩ | ⟨b1, b2, b3, b4⟩
    · rw [b3 i a2] at a3
      cases a3
    · rcases Nat.lt_trichotomy i i' with h | h | h
      · rw [b4 i h] at a3
        cases a3
      · exact ⟨h, by omega⟩
      · rw [a4 i' h] at b3
        cases b3
/-- there is one first fault -/
theorem fdB_det {L : List (Nat × Nat)} {J : List Nat} {M : List (ByteArray × Nat)} {i x i' x' : Nat} (h : FdB L J M i x) (hx : x ≠ 0) (h' : FdB L J M i' x') (hx' : x' ≠ 0) : i = i' ∧ x = x' := by
  rcases h with ⟨a1, a2, a3⟩ | ⟨a1, a2, a3, a4⟩ | ⟨a1, a2, a3⟩ | ⟨a1, a2, a3, a4⟩ | ⟨a1, a2, a3, a4, a5⟩
  · rcases h' with ⟨b1, b2, b3⟩ | ⟨b1, _⟩ | ⟨b1, _⟩ | ⟨b1, _⟩ | ⟨b1, _⟩
    · exact ⟨by omega, by omega⟩
    all_goals exact absurd b1 a1
  · rcases h' with ⟨b1, _⟩ | ⟨b1, b2, b3, b4⟩ | ⟨_, b2, _⟩ | ⟨_, b2, _⟩ | ⟨_, b2, _⟩
    · exact absurd a1 b1
    · exact ⟨by omega, by omega⟩
    all_goals rw [a2] at b2; cases b2
  · rcases h' with ⟨b1, _⟩ | ⟨_, b2, _⟩ | ⟨_, _, b3⟩ | ⟨_, _, b3, _⟩ | ⟨_, _, b3, _⟩
    · exact absurd a1 b1
    · rw [a2] at b2; cases b2
    · exact ckR_det a3 b3
    all_goals exact absurd (ckR_det a3 b3).2 hx
  · rcases h' with ⟨b1, _⟩ | ⟨_, b2, _⟩ | ⟨_, _, b3⟩ | ⟨_, _, b3, b4⟩ | ⟨_, _, b3, b4, _⟩
    · exact absurd a1 b1
    · rw [a2] at b2; cases b2
    · exact absurd (ckR_det b3 a3).2 hx'
    · exact jmR_det a4 b4
    · exact absurd (jmR_det a4 b4).2 hx
  · rcases h' with ⟨b1, _⟩ | ⟨_, b2, _⟩ | ⟨_, _, b3⟩ | ⟨_, _, b3, b4⟩ | ⟨_, _, b3, b4, b5⟩
    · exact absurd a1 b1
    · rw [a2] at b2; cases b2
    · exact absurd (ckR_det b3 a3).2 hx'
    · exact absurd (jmR_det b4 a4).2 hx'
    · exact nmR_det a5 b5
end Go.Proofs.YtihnkeflcnndpaaDoor
namespace Go.Proofs.YtihnkeflcnndpaaDoor
open Go.RowKit Go.WideShapes Go.Shelf
set_option maxRecDepth 100000

/-- where procedure i begins; behind the last one the code's end -/
abbrev bAt (L : List (Nat × Nat)) (i : Nat) : Nat := (bgs L).getD i L.length
theorem prL_get (L : List (Nat × Nat)) {i : Nat} (h : i < (bgs L).length) : (prL L).getD i (0, 0, 0) = (bAt L i, bAt L (i + 1), argL L (bAt L i)) := by
  rw [prs_get L _ i h, getD_anyP h 0 L.length]
theorem bAt_lt {L : List (Nat × Nat)} {i : Nat} (h : i < (bgs L).length) : bAt L i < bAt L (i + 1) := by
  unfold bAt
  by_cases h2 : i + 1 < (bgs L).length
  · rw [getD_anyP h L.length 0]
    exact bgs_up (by omega) h2
  · rw [getD_outP (i := i + 1) (by omega), getD_anyP h L.length 0]
    exact bgs_lt h
theorem bAt_two {L : List (Nat × Nat)} {J : List Nat} {M : List (ByteArray × Nat)} (hG : FdG L J M) {i : Nat} (h : i < (bgs L).length) : bAt L i + 2 ≤ bAt L (i + 1) := by
  have h1 := bAt_lt h
  by_cases h2 : bAt L (i + 1) = bAt L i + 1
  · have hk := hG.ck i (by rw [prs_len]; exact h)
    unfold OkP at hk
    rw [prL_get L h] at hk
    have h3 := hk (bAt L i) (Nat.le_refl _) h1
    have h4 : (L.getD (bAt L i) (0, 0)).1 = 3 := by
      have := bgs_is h
      rw [getD_anyP h 0 L.length] at this
      unfold isEn at this
      simp at this
      simp [this.2]
    unfold errP at h3
    rw [h4, h2] at h3
    have h5 : opKi 3 = 6 := by decide +kernel
    rw [h5] at h3
    unfold ckE at h3
    simp [endK] at h3
    split at h3 <;> cases h3
  · omega
/-- an instruction in its procedure -/
theorem at_in {L : List (Nat × Nat)} {i k : Nat} (h : i < (bgs L).length) (h1 : bAt L i ≤ k) (h2 : k < bAt L (i + 1)) : ofL L k = (i : Int) ∧ isEn L k = decide (k = bAt L i) := by
  unfold bAt at h1 h2 ⊢
  rw [getD_anyP h L.length 0] at h1 ⊢
  exact ⟨ofL_in h h1 h2, is_in h h1 h2⟩
theorem op_is {L : List (Nat × Nat)} {k : Nat} (hk : k < L.length) : isEn L k = ((L.getD k (0, 0)).1 == 3) := by
  unfold isEn
  rw [decide_eq_true hk, Bool.true_and]
set_option maxHeartbeats 4000000 in
theorem tile_any (ao aj an : Option Addr) (cap capj capn : Nat) (L : List (Nat × Nat)) (J : List Nat) (M : List (ByteArray × Nat)) (w : World) (hn : L.length ≤ 9223372036854775807) (hJn : J.length ≤ 9223372036854775807) (hMn : M.length ≤ 9223372036854775807) (hwf : Wfc L) (hJ : ∀ z ∈ J, z < 4294967296) (hM : ∀ j, j < M.length → (M.getD j (.empty, 0)).2 < 4294967296)
    (hr : CRd w ao L w.heap.size) (hrJ : JRd w aj J w.heap.size) (hrN : NRd w an M w.heap.size) (hT : TabW w) (hp : 0 < w.heap.size) :
    Calls Tryd.prog 4 #[.agg #[.slice ao L.length cap, .slice aj J.length capj, .slice an M.length capn]] w fun e w' => e = .returned (.bool true) ∧ Below w.heap.size w w' := by
  have HSm := hidS (fun W hW => small_any W (hT.below hW hp) (Nat.lt_of_lt_of_le hp hW.size))
  have HFd : Hid (∀ W, Below w.heap.size w W → Calls Tryd.prog 11 #[.slice ao L.length cap, .slice aj J.length capj, .slice an M.length capn] W (FdP W L J M)) := hidS (fun W hW => find_any ao aj an cap capj capn L J M W hn hJn hMn hwf hJ hM (CRd.mono (CRd.below hr hW) hW.size) (fun q => by obtain ⟨b, o, e1, e2, e3⟩ := (hrJ.below hW) q; exact ⟨b, o, e1, Nat.lt_of_lt_of_le e2 hW.size, e3⟩) (fun q => by obtain ⟨b, o, e1, e2, e3⟩ := (hrN.below hW) q; exact ⟨b, o, e1, Nat.lt_of_lt_of_le e2 hW.size, e3⟩) (hT.below hW hp) (Nat.lt_of_lt_of_le hp hW.size))
  have HR : Hid (∀ W, Below w.heap.size w W → CRd W ao L w.heap.size) := hidS (fun W hW => CRd.below hr hW)
  clear hr hrJ hrN
  go_enter Tryd.func4, Tryd.ntmps4
  go_wp2_with fail
  obtain ⟨W0, hW0⟩ : ∃ W, w.alloc (Obj.cells #[.slice ao L.length cap, .slice aj J.length capj, .slice an M.length capn] 26) = W := ⟨_, rfl⟩
  have hb0 : Below w.heap.size w W0 := by rw [← hW0]; exact belP (Below.refl _ _)
  have o0 : W0.heap[w.heap.size]? = some (Obj.cells #[.slice ao L.length cap, .slice aj J.length capj, .slice an M.length capn] 26) := by rw [← hW0]; exact heap_alloc_new _ _
  rw [hW0]
  refine (HSm.out W0 hb0).mono ?_
  rintro e w1 ⟨hb1, _, _, _, _, _, _, _, _, _, rfl, _⟩
  have o1 := (hb1.block _ (Array.getElem?_eq_some_iff.1 o0).1).trans o0
  have c0 := (obj_cell o1 0).trans rfl
  have c1 := (obj_cell o1 1).trans rfl
  have c2 := (obj_cell o1 2).trans rfl
  have hb01 := btP hb0 hb1
  clear hW0 o0
  go_wp2_with fail
  refine (HFd.out w1 hb01).mono ?_
  clear c0 c1 c2
  rintro e w2 ⟨hb2, ⟨i2, x2, rfl, hx2, _⟩ | ⟨B, pp, p1, g1, p2, g2, lv, A, C, rfl, hP, hA, hC, _, _, hG⟩⟩
  · have hxI : ¬ (x2 : Int) = 0 := by omega
    have HB := hidS (btP hb01 hb2)
    clear hb2 hb01 hb1 hb0 o1
    go_wp2_with fail
    go_ret
    exact ⟨rfl, HB.out⟩
  · have hl := encX_len hG.enc
    have hE := hG.fst
    have hb02 := btP hb01 hb2
    have o2 := (hb2.block _ (Array.getElem?_eq_some_iff.1 o1).1).trans o1
    have hml : (bgs L).length ≤ 16384 := Nat.le_trans (els_le _ _) hl
    obtain ⟨al, capl, hlv, _⟩ := hP.reads
    have HCT : Hid (∀ W, Below w2.heap.size w2 W → Calls Tryd.prog 12 #[.pointer (some ⟨pp, 0, none⟩)] W fun e w' => e = .returned (.int .i64 (bgs L).length) ∧ w' = W) := hidS (fun W hW => by
      have := pcount_any pp (prL L).length capl al W (hP.below hW).c0 ((hP.below hW).c1.trans (by rw [hlv]))
      rw [prs_len] at this
      exact this)
    have HPR : Hid (∀ W (i : Nat), Below w2.heap.size w2 W → i < (bgs L).length → Calls Tryd.prog 13 #[.pointer (some ⟨pp, 0, none⟩), .int .i64 i] W fun e w' => e = .returned (.tuple #[.agg #[.int .u32 (bAt L i : Nat), .int .u32 (bAt L (i + 1) : Nat), .int .u32 (argL L (bAt L i) : Nat), .int .i64 0], .bool true]) ∧ Below W.heap.size W w') := hidS (fun W i hW hi => by
      have := pproc_in i W (by rw [prs_len]; exact hi) (hP.below hW)
      rw [prL_get L hi] at this
      exact this)
    have HOF : Hid (∀ W (x : Nat), Below w2.heap.size w2 W → Calls Tryd.prog 14 #[.pointer (some ⟨pp, 0, none⟩), .int .u32 x] W fun e w' => e = .returned (.int .i64 (ofL L x)) ∧ Below W.heap.size W w') := hidS (fun W x hW => pof_any x W hl hE (hP.below hW))
    have HBG : Hid (∀ W (x : Nat), Below w2.heap.size w2 W → x < 4294967296 → Calls Tryd.prog 15 #[.pointer (some ⟨pp, 0, none⟩), .int .u32 x] W fun e w' => e = .returned (.bool (isEn L x)) ∧ w' = W) := hidS (fun W x hW hx => by rw [← hA]; exact pbegins_any x W hx (hP.below hW))
    have HCC : Hid (∀ W, Below w2.heap.size w2 W → W.cell? ⟨w.heap.size, 0, none⟩ = some (.slice ao L.length cap)) := hidS (fun W hW => (obj_cell ((hW.block _ (Array.getElem?_eq_some_iff.1 o2).1).trans o2) 0).trans rfl)
    have HR2 : Hid (∀ W, Below w2.heap.size w2 W → CRd W ao L w.heap.size) := hidS (fun W hW => HR.out W (btP hb02 hW))
    have HG := hidS hG
    have HB02 := hidS hb02
    have h0 : bAt L 0 = 0 := by
      unfold bAt
      rw [getD_anyP (bgs_pos hE) L.length 0]
      exact bgs_first hE
    have HF0 := hidS h0
    clear hP hA hC hlv hb2 hb01 hb1 hb0 o1 o2 hb02 h0 hG HSm HFd HR
    go_wp2_with fail
    go_loopw [6, 7] (fun u v wr => ∃ i : Nat, u = .int .i64 (bAt L i : Nat) ∧ v = .int .i64 i ∧ i ≤ (bgs L).length ∧ Below w2.heap.size w2 wr)
      (fun _ v _ => (bgs L).length - (intOf v).toNat)
    case atStart => exact ⟨0, by rw [HF0.out]; rfl, rfl, Nat.zero_le _, Below.refl _ _⟩
    case round =>
      obtain ⟨i, rfl, rfl, hi, hbw⟩ := hrel
      have hct := HCT.out wr hbw
      by_cases hlt : i < (bgs L).length
      · have hltI : (i : Int) < ((bgs L).length : Int) := by omega
        have hpr := HPR.out wr i hbw hlt
        have hb12 := bAt_two HG.out hlt
        have hbe := bgs_end (L := L) (i + 1)
        have HIN : Hid (∀ k, bAt L i ≤ k → k < bAt L (i + 1) → ofL L k = (i : Int) ∧ isEn L k = decide (k = bAt L i)) := hidS (fun k h1 h2 => at_in hlt h1 h2)
        obtain ⟨b, hbq⟩ : ∃ b, bAt L i = b := ⟨_, rfl⟩
        obtain ⟨e, heq⟩ : ∃ e, bAt L (i + 1) = e := ⟨_, rfl⟩
        have HEQ := hidS heq
        change bAt L (i + 1) ≤ L.length at hbe
        rw [hbq] at hpr hb12 HIN ⊢
        rw [heq] at hpr hb12 HIN hbe
        clear hbq heq
        have hbL : b < L.length := by omega
        generalize (bgs L).length = m at hct hlt hltI hml hi HCT HPR
        go_wp2_with (first
          | (go_at_call 12; refine hct.mono ?_; rintro e1 w3 ⟨rfl, hw3⟩; have hw3 := hw3.symm; subst hw3)
          | (go_at_call 13; refine hpr.mono ?_; rintro e2 w4 ⟨rfl, hb4⟩))
        obtain ⟨bb, off, rfl, hbb, hcc⟩ := HR2.out wr hbw (by omega)
        have hbV : Below w2.heap.size w2 (w4.alloc (Obj.cells #[.int .u32 (b : Int), .int .u32 (e : Int), .int .u32 ((argL L b : Nat) : Int), .int .i64 0] 43)) := belP (btP hbw hb4)
        have oV := heap_alloc_new w4 (Obj.cells #[.int .u32 (b : Int), .int .u32 (e : Int), .int .u32 ((argL L b : Nat) : Int), .int .i64 0] 43)
        obtain ⟨kp, hkp⟩ : ∃ k, w4.heap.size = k := ⟨_, rfl⟩
        rw [hkp] at oV ⊢
        clear hkp
        generalize w4.alloc (Obj.cells #[.int .u32 (b : Int), .int .u32 (e : Int), .int .u32 ((argL L b : Nat) : Int), .int .i64 0] 43) = V at hbV oV ⊢
        have cC := HCC.out V hbV
        have HV : Hid (∀ W, Below V.heap.size V W → ∀ k, k < L.length → W.cell? ⟨bb, off + k * 2, none⟩ = some (.int .u8 ((L.getD k (0, 0)).1 : Nat)) ∧ W.cell? ⟨bb, off + k * 2 + 1, none⟩ = some (.int .u32 (argL L k : Nat))) := hidS (fun W hW k hk => by
          obtain ⟨b2, off2, e1, _, e3⟩ := HR2.out W (btP hbV hW) (by omega)
          cases e1
          exact e3 k hk)
        have v1 := (HV.out V (Below.refl _ _) b hbL).2
        have c0 := (obj_cell oV 0).trans rfl
        have c1 := (obj_cell oV 1).trans rfl
        have c2 := (obj_cell oV 2).trans rfl
        have c3 := (obj_cell oV 3).trans rfl
        have hbI : (b : Int) < (L.length : Int) := by omega
        have q1 : ¬ (e : Int) < (b : Int) + 2 := by omega
        have q2 : ¬ (L.length : Int) < (e : Int) := by omega
        generalize argL L b = fr at v1 c2 oV
        clear hcc
        go_quiet (fail)
        have hbq : Below V.heap.size V (V.drewN nq) := below_drewN (Below.refl _ _) nq
        have oQ := (hbq.block _ (Array.getElem?_eq_some_iff.1 oV).1).trans oV
        have hbVq := btP hbV hbq
        have HVQ : Hid (∀ W, Below (V.drewN nq).heap.size (V.drewN nq) W → ∀ k, k < L.length → W.cell? ⟨bb, off + k * 2, none⟩ = some (.int .u8 ((L.getD k (0, 0)).1 : Nat))) := hidS (fun W hW k hk => (HV.out W (btP hbq hW) k hk).1)
        clear HV cC v1 c0 c1 c2 c3 oV hbV hbI q1 q2 hbq
        generalize V.drewN nq = U at oQ hbVq HVQ ⊢
        go_wp2_with fail
        go_loopw [10] (fun u wr => ∃ k : Nat, u = .int .i64 k ∧ b ≤ k ∧ k ≤ e ∧ Below U.heap.size U wr)
          (fun u _ => e - (intOf u).toNat)
        case atStart => exact ⟨b, rfl, Nat.le_refl _, by omega, Below.refl _ _⟩
        case round =>
          obtain ⟨k, rfl, hk1, hk2, hbk⟩ := hrel
          have hobj := (hbk.block kp (Array.getElem?_eq_some_iff.1 oQ).1).trans oQ
          have c1 := (obj_cell hobj 1).trans rfl
          by_cases hke : k < e
          · have hkeI : (k : Int) < (e : Int) := by omega
            have hkL : k < L.length := by omega
            have hkLI : (k : Int) < (L.length : Int) := by omega
            have hk32 : k < 4294967296 := by omega
            have hbVk := btP hbVq hbk
            have hof := HOF.out wr k hbVk
            obtain ⟨f1, f2⟩ := HIN.out k hk1 hke
            rw [f1] at hof
            have HOP : Hid ((L.getD k (0, 0)).1 = (L.getD k (0, 0)).1) := hidS rfl
            have hop := op_is hkL
            rw [f2] at hop
            obtain ⟨op, hopq⟩ : ∃ op, (L.getD k (0, 0)).1 = op := ⟨_, rfl⟩
            rw [hopq] at hop
            clear HOP
            have HOP := hidS hopq
            clear hopq f1
            by_cases hkb : k = b
            · have hEN : isEn L k = true := by rw [f2]; simp [hkb]
              have hop3 : ((op : Int) == 3) = true := by
                rw [decide_eq_true hkb] at hop
                have := eq_of_beq hop.symm
                subst this
                rfl
              have hkbB : ((k : Int) == (b : Int)) = true := by rw [hkb]; simp
              clear hop f2 hkb hobj
              go_wp2_with (first
                | (go_at_call 14; refine hof.mono ?_; rintro e5 w5 ⟨rfl, hb5⟩; have hbg := HBG.out w5 k (btP hbVk hb5) hk32; rw [hEN] at hbg; have cC := HCC.out w5 (btP hbVk hb5); have v0 := HVQ.out w5 (btP hbk hb5) k hkL; rw [HOP.out] at v0)
                | (go_at_call 15; refine hbg.mono ?_; rintro e6 w6 ⟨rfl, hw6⟩; subst hw6))
              go_roundw
              case rel => exact ⟨k + 1, by go_num, by omega, by omega, btP hbk hb5⟩
              case measure => simp [intOf]; omega
            · have hEN : isEn L k = false := by rw [f2]; simp [hkb]
              have hop3 : ((op : Int) == 3) = false := by
                rw [decide_eq_false hkb] at hop
                have := ne_of_beq_false hop.symm
                exact beq_eq_false_iff_ne.2 (by omega)
              have hkbB : ((k : Int) == (b : Int)) = false := beq_eq_false_iff_ne.2 (by omega)
              clear hop f2 hkb hobj
              go_wp2_with (first
                | (go_at_call 14; refine hof.mono ?_; rintro e5 w5 ⟨rfl, hb5⟩; have hbg := HBG.out w5 k (btP hbVk hb5) hk32; rw [hEN] at hbg; have cC := HCC.out w5 (btP hbVk hb5); have v0 := HVQ.out w5 (btP hbk hb5) k hkL; rw [HOP.out] at v0)
                | (go_at_call 15; refine hbg.mono ?_; rintro e6 w6 ⟨rfl, hw6⟩; subst hw6))
              go_roundw
              case rel => exact ⟨k + 1, by go_num, by omega, by omega, btP hbk hb5⟩
              case measure => simp [intOf]; omega
          · have hkeI : ¬ (k : Int) < (e : Int) := by omega
            have HH := hidS hobj
            clear hobj
            go_wp2_with fail
            go_roundw
            case rel => exact ⟨i + 1, by rw [HEQ.out], by go_num, by omega, btP hbVq hbk⟩
            case measure => simp [intOf]; omega
      · have hie : i = (bgs L).length := by omega
        have hltI : ¬ (i : Int) < ((bgs L).length : Int) := by omega
        have hbe : bAt L i = L.length := getD_outP (by omega)
        have hof := HOF.out wr L.length hbw
        have hofn : ofL L L.length = -1 := by rw [ofL, if_neg (by omega)]
        rw [hofn] at hof
        have cC := HCC.out wr hbw
        rw [hbe]
        have hl32 : L.length < 4294967296 := by omega
        clear hbe hie hofn
        generalize (bgs L).length = m at hct hlt hltI hml hi HCT HPR
        go_wp2_with (first
          | (go_at_call 12; refine hct.mono ?_; rintro e1 w3 ⟨rfl, hw3⟩; have hw3 := hw3.symm; subst hw3)
          | (go_at_call 14; refine hof.mono ?_; rintro e5 w5 ⟨rfl, hb5⟩))
        go_ret
        exact ⟨rfl, btP HB02.out (btP hbw hb5)⟩
end Go.Proofs.YtihnkeflcnndpaaDoor
