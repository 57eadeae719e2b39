import Derived.Test.YtnalnlbainghoaaGreatDoorCPFa
import Derived.Test.YtnalnlbainghoaaGreatDoorPFi
namespace Go.Proofs.YtnalnlbainghoaaGreatDoor
open Go.RowKit Go.WideShapes Go.Shelf
set_option maxRecDepth 100000

set_option maxHeartbeats 1000000 in
theorem pproc_in {B pp p1 g1 p2 g2 n : Nat} {lv : Value} {Ps : List (Nat × Nat × Nat)} {A C : List Nat} (i : Nat) (w : World) (hi : i < Ps.length) (h : PrS w B pp p1 g1 p2 g2 n lv Ps A C) :
    Calls Tryz.prog 107 #[.pointer (some ⟨pp, 0, none⟩), .int .i64 i] w fun e w' => e = .returned (.tuple #[.agg #[.int .u32 ((Ps.getD i (0, 0, 0)).1 : Nat), .int .u32 ((Ps.getD i (0, 0, 0)).2.1 : Nat), .int .u32 ((Ps.getD i (0, 0, 0)).2.2 : Nat), .int .i64 0], .bool true]) ∧ Below w.heap.size w w' := by
  obtain ⟨ao, cap, rfl, hr⟩ := h.reads
  obtain ⟨b, off, rfl, hb, hc⟩ := hr (by omega)
  have HM := hidS (fun W hb => pcount_any pp Ps.length cap (some ⟨b, off, none⟩) W (h.below hb).c0 (h.below hb).c1)
  have HCL : Hid (∀ o, (w.alloc o).cell? ⟨pp, 1, none⟩ = some (.slice (some ⟨b, off, none⟩) Ps.length cap)) := hidS (fun o => (h.below (belP (Below.refl _ _))).c1)
  obtain ⟨v0, v1, v2, v3⟩ := hc i hi
  obtain ⟨pb, pe, pf, hq⟩ : ∃ pb pe pf, Ps.getD i (0, 0, 0) = (pb, pe, pf) := ⟨_, _, _, rfl⟩
  rw [hq] at v0 v1 v2 ⊢
  have HV : Hid (∀ o, (w.alloc o).cell? ⟨b, off + i * 4, none⟩ = some (.int .u32 (pb : Int)) ∧ (w.alloc o).cell? ⟨b, off + i * 4 + 1, none⟩ = some (.int .u32 (pe : Int)) ∧ (w.alloc o).cell? ⟨b, off + i * 4 + 2, none⟩ = some (.int .u32 (pf : Int)) ∧ (w.alloc o).cell? ⟨b, off + i * 4 + 3, none⟩ = some (.int .i64 0)) := hidS (fun o => by
    have hw : Below w.heap.size w (w.alloc o) := belP (Below.refl _ _)
    exact ⟨(hw.cell (p := ⟨b, off + i * 4, none⟩) hb).trans v0, (hw.cell (p := ⟨b, off + i * 4 + 1, none⟩) hb).trans v1, (hw.cell (p := ⟨b, off + i * 4 + 2, none⟩) hb).trans v2, (hw.cell (p := ⟨b, off + i * 4 + 3, none⟩) hb).trans v3⟩)
  have k0 := fun o => (HV.out o).1
  have k1 := fun o => (HV.out o).2.1
  have k2 := fun o => (HV.out o).2.2.1
  have k3 := fun o => (HV.out o).2.2.2
  have kl := HCL.out
  have h0I : ¬ (i : Int) < 0 := by omega
  have h1I : (i : Int) < (Ps.length : Int) := by omega
  have h2I : ¬ (Ps.length : Int) ≤ (i : Int) := by omega
  clear hr hc h v0 v1 v2 v3 hq
  go_enter Tryz.func107, Tryz.ntmps107
  go_wp2_with (go_at_call 135; refine (HM.out _ (belP (Below.refl _ _))).mono ?_; rintro e w2 ⟨rfl, hw2⟩; have hw2 := hw2.symm; subst hw2)
  exact bodyPost_ret (v := .tuple #[.agg #[.int .u32 (pb : Int), .int .u32 (pe : Int), .int .u32 (pf : Int), .int .i64 0], .bool true]) (by simp [results, Tryz.f107, go_sem]) rfl ⟨rfl, belP (Below.refl _ _)⟩
theorem pproc_out {B pp p1 g1 p2 g2 n : Nat} {lv : Value} {Ps : List (Nat × Nat × Nat)} {A C : List Nat} (i : Int) (w : World) (hi : i < 0 ∨ (Ps.length : Int) ≤ i) (h : PrS w B pp p1 g1 p2 g2 n lv Ps A C) :
    Calls Tryz.prog 107 #[.pointer (some ⟨pp, 0, none⟩), .int .i64 i] w fun e w' => e = .returned (.tuple #[.agg #[.int .u32 0, .int .u32 0, .int .u32 0, .int .i64 0], .bool false]) ∧ Below w.heap.size w w' := by
  obtain ⟨ao, cap, rfl, hr⟩ := h.reads
  have HM := hidS (fun W hb => pcount_any pp Ps.length cap ao W (h.below hb).c0 (h.below hb).c1)
  clear hr h
  by_cases h0 : i < 0
  · go_enter Tryz.func107, Tryz.ntmps107
    go_wp2_with (go_at_call 135; refine (HM.out _ (belP (Below.refl _ _))).mono ?_; rintro e w2 ⟨rfl, hw2⟩; have hw2 := hw2.symm; subst hw2)
    exact bodyPost_ret (v := .tuple #[.agg #[.int .u32 0, .int .u32 0, .int .u32 0, .int .i64 0], .bool false]) (by simp [results, Tryz.f107, go_sem]) rfl ⟨rfl, belP (Below.refl _ _)⟩
  · have h1 : (Ps.length : Int) ≤ i := by omega
    go_enter Tryz.func107, Tryz.ntmps107
    go_wp2_with (go_at_call 135; refine (HM.out _ (belP (Below.refl _ _))).mono ?_; rintro e w2 ⟨rfl, hw2⟩; have hw2 := hw2.symm; subst hw2)
    exact bodyPost_ret (v := .tuple #[.agg #[.int .u32 0, .int .u32 0, .int .u32 0, .int .i64 0], .bool false]) (by simp [results, Tryz.f107, go_sem]) rfl ⟨rfl, belP (Below.refl _ _)⟩
end Go.Proofs.YtnalnlbainghoaaGreatDoor
namespace Go.Proofs.YtnalnlbainghoaaGreatDoor
open Go.RowKit Go.WideShapes Go.Shelf
set_option maxRecDepth 100000

theorem fdG_not {L : List (Nat × Nat)} {J : List Nat} {M : List (ByteArray × Nat)} {i x : Nat} (h : FdG L J M) (hb : FdB L J M i x) : x = 0 := by
  rcases hb with ⟨h1, _⟩ | ⟨_, h1, _⟩ | ⟨_, _, h1⟩ | ⟨_, _, _, h1⟩ | ⟨_, _, _, _, h1⟩
  · exact absurd h.enc h1
  · rw [h.fst] at h1
    cases h1
  · rcases h1 with ⟨_, h2, _⟩ | ⟨_, k, h3, h4, h5, h6, _⟩
    · exact h2
    · rw [← h6]
      exact h.ck k h3 i h4 h5
  · rcases h1 with ⟨_, h2, _⟩ | ⟨_, h3, h4, _⟩
    · exact h2
    · rw [h.jm i h3] at h4
      cases h4
  · rcases h1 with ⟨_, h2, _⟩ | ⟨_, h3, h4, _⟩
    · exact h2
    · rw [h.nm i h3] at h4
      cases h4
/-- the same, by reckoning -/
def ckAll (L : List (Nat × Nat)) : Bool := (List.range (prL L).length).all fun k => (List.range' ((prL L).getD k (0, 0, 0)).1 (((prL L).getD k (0, 0, 0)).2.1 - ((prL L).getD k (0, 0, 0)).1)).all fun j => errP L ((prL L).getD k (0, 0, 0)) j == 0
theorem ckAll_ok {L : List (Nat × Nat)} (h : ckAll L = true) : ∀ k, k < (prL L).length → OkP L (prL L) k := by
  intro k hk j h1 h2
  have := List.all_eq_true.1 (List.all_eq_true.1 h k (List.mem_range.2 hk)) j (List.mem_range'_1.2 ⟨h1, by omega⟩)
  exact eq_of_beq this
theorem fdG_of {L : List (Nat × Nat)} {J : List Nat} {M : List (ByteArray × Nat)} (h1 : encX L = 0) (h2 : isEn L 0 = true) (h3 : ckAll L = true) (h4 : ((List.range J.length).all fun j => okJ L J j) = true) (h5 : ((List.range M.length).all fun j => okN L M j) = true) : FdG L J M :=
  ⟨h1, h2, ckAll_ok h3, fun j hj => List.all_eq_true.1 h4 j (List.mem_range.2 hj), fun j hj => List.all_eq_true.1 h5 j (List.mem_range.2 hj)⟩
def codeV (L : List (Nat × Nat)) : Array Value := (cv L).toArray
theorem cv_all : ∀ (L : List (Nat × Nat)) (m : Nat), m < L.length → (cv L)[m * 2]? = some (.int .u8 ((L.getD m (0, 0)).1 : Nat)) ∧ (cv L)[m * 2 + 1]? = some (.int .u32 ((L.getD m (0, 0)).2 : Nat))
  | [], m, h => by simp at h
  | a :: t, 0, _ => ⟨rfl, rfl⟩
  | a :: t, m + 1, h => by
    have := cv_all t m (by simpa using h)
    rw [show (m + 1) * 2 + 1 = (m * 2 + 1) + 2 by omega, show (m + 1) * 2 = m * 2 + 2 by omega]
    simpa [cv] using this
theorem crd_block {w : World} {b : Nat} {cs : Array Value} {t : TypeId} {fr : Nat × Nat} (h : w.heap[b]? = some (.cells cs t fr)) (L : List (Nat × Nat)) (hc : cs.toList = cv L) : CRd w (some ⟨b, 0, none⟩) L w.heap.size := fun _ => ⟨b, 0, rfl, (Array.getElem?_eq_some_iff.1 h).1, fun j hj => by
  obtain ⟨e1, e2⟩ := cv_all L j hj
  rw [obj_cell h, obj_cell h, Nat.zero_add, ← Array.getElem?_toList, ← Array.getElem?_toList, hc]
  exact ⟨e1, e2⟩⟩
theorem jrd_block {w : World} {b : Nat} {cs : Array Value} {t : TypeId} {fr : Nat × Nat} (h : w.heap[b]? = some (.cells cs t fr)) (J : List Nat) (hc : cs.toList = J.map fun z : Nat => Value.int .u32 (z : Int)) : JRd w (some ⟨b, 0, none⟩) J w.heap.size := fun _ => ⟨b, 0, rfl, (Array.getElem?_eq_some_iff.1 h).1, fun j hj => by
  rw [obj_cell h, Nat.zero_add, ← Array.getElem?_toList, hc]
  simp [hj]⟩
def nv (M : List (ByteArray × Nat)) : List Value := M.flatMap fun p => [.string p.1, .int .u32 p.2]
theorem nv_all : ∀ (M : List (ByteArray × Nat)) (m : Nat), m < M.length → (nv M)[m * 2]? = some (.string (M.getD m (.empty, 0)).1) ∧ (nv M)[m * 2 + 1]? = some (.int .u32 ((M.getD m (.empty, 0)).2 : Nat))
  | [], m, h => by simp at h
  | a :: t, 0, _ => ⟨rfl, rfl⟩
  | a :: t, m + 1, h => by
    have := nv_all t m (by simpa using h)
    rw [show (m + 1) * 2 + 1 = (m * 2 + 1) + 2 by omega, show (m + 1) * 2 = m * 2 + 2 by omega]
    simpa [nv] using this
theorem nrd_block {w : World} {b : Nat} {cs : Array Value} {t : TypeId} {fr : Nat × Nat} (h : w.heap[b]? = some (.cells cs t fr)) (M : List (ByteArray × Nat)) (hc : cs.toList = nv M) : NRd w (some ⟨b, 0, none⟩) M w.heap.size := fun _ => ⟨b, 0, rfl, (Array.getElem?_eq_some_iff.1 h).1, fun j hj => by
  obtain ⟨e1, e2⟩ := nv_all M j hj
  rw [obj_cell h, obj_cell h, Nat.zero_add, ← Array.getElem?_toList, ← Array.getElem?_toList, hc]
  exact ⟨e1, e2⟩⟩
/-- the fixed code -/
abbrev smL : List (Nat × Nat) := [(3, 8), (8, 0), (4, 8), (3, 4), (8, 4), (7, 0), (8, 1), (4, 4)]
abbrev smN : List (ByteArray × Nat) := [(⟨#[102]⟩, 3)]
theorem smG : FdG smL [4, 6] smN := fdG_of (by decide +kernel) (by decide +kernel) (by decide +kernel) (by decide +kernel) (by decide +kernel)
end Go.Proofs.YtnalnlbainghoaaGreatDoor
namespace Go.Proofs.YtnalnlbainghoaaGreatDoor
open Go.RowKit Go.WideShapes Go.Shelf
set_option maxRecDepth 100000

/-- where procedure i begins; behind the last one the code's end -/
abbrev bAt (L : List (Nat × Nat)) (i : Nat) : Nat := (bgs L).getD i L.length
theorem prL_get (L : List (Nat × Nat)) {i : Nat} (h : i < (bgs L).length) : (prL L).getD i (0, 0, 0) = (bAt L i, bAt L (i + 1), argL L (bAt L i)) := by
  rw [prs_get L _ i h, getD_anyP h 0 L.length]
theorem bAt_lt {L : List (Nat × Nat)} {i : Nat} (h : i < (bgs L).length) : bAt L i < bAt L (i + 1) := by
  unfold bAt
  by_cases h2 : i + 1 < (bgs L).length
  · rw [getD_anyP h L.length 0]
    exact bgs_up (by omega) h2
  · rw [getD_outP (i := i + 1) (by omega), getD_anyP h L.length 0]
    exact bgs_lt h
theorem bAt_two {L : List (Nat × Nat)} {J : List Nat} {M : List (ByteArray × Nat)} (hG : FdG L J M) {i : Nat} (h : i < (bgs L).length) : bAt L i + 2 ≤ bAt L (i + 1) := by
  have h1 := bAt_lt h
  by_cases h2 : bAt L (i + 1) = bAt L i + 1
  · have hk := hG.ck i (by rw [prs_len]; exact h)
    unfold OkP at hk
    rw [prL_get L h] at hk
    have h3 := hk (bAt L i) (Nat.le_refl _) h1
    have h4 : (L.getD (bAt L i) (0, 0)).1 = 3 := by
      have := bgs_is h
      rw [getD_anyP h 0 L.length] at this
      unfold isEn at this
      simp at this
      simp [this.2]
    unfold errP at h3
    rw [h4, h2] at h3
    have h5 : opKi 3 = 6 := by decide +kernel
    rw [h5] at h3
    unfold ckE at h3
    simp [endK] at h3
    split at h3 <;> cases h3
  · omega
/-- an instruction in its procedure -/
theorem at_in {L : List (Nat × Nat)} {i k : Nat} (h : i < (bgs L).length) (h1 : bAt L i ≤ k) (h2 : k < bAt L (i + 1)) : ofL L k = (i : Int) ∧ isEn L k = decide (k = bAt L i) := by
  unfold bAt at h1 h2 ⊢
  rw [getD_anyP h L.length 0] at h1 ⊢
  exact ⟨ofL_in h h1 h2, is_in h h1 h2⟩
theorem op_is {L : List (Nat × Nat)} {k : Nat} (hk : k < L.length) : isEn L k = ((L.getD k (0, 0)).1 == 3) := by
  unfold isEn
  rw [decide_eq_true hk, Bool.true_and]
end Go.Proofs.YtnalnlbainghoaaGreatDoor
