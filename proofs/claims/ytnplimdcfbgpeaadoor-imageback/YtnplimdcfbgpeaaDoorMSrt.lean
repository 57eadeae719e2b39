import Derived.Test.YtnplimdcfbgpeaaDoorCMIdx
import Derived.Test.YtnplimdcfbgpeaaDoorShelf
namespace Go.Proofs.YtnplimdcfbgpeaaDoor
open Go.RowKit Go.WideShapes Go.Sort Go.Lib
set_option maxRecDepth 100000

def encS (p : Nat × Nat) : List Value := [.int .u32 p.1, .int .u32 p.2]
theorem holdsS {w : World} {B g cap : Nat} {L : List (Nat × Nat)} (h : w.ownsRow B 47 2 (.slice (some ⟨g, 0, none⟩) L.length cap) L.length (sv L)) : HoldsK encS 2 w g 0 L.toArray := by
  intro j hj
  have hj2 : j < L.length * 2 := by simpa [flatK] using hj
  refine ⟨?_, h.frozenAt (0 + j)⟩
  obtain ⟨s0, s1⟩ := sv_get L (j / 2) (by omega)
  have hv : (sv L)[j]? = some (id (flatK encS 2 L.toArray)[j]!) := by
    have e : (flatK encS 2 L.toArray)[j]! = (encS L.toArray[j / 2]!)[j % 2]! := get_flatK _ _ _ j (by simpa using hj2)
    have e2 : L.toArray[j / 2]! = L.getD (j / 2) (0, 0) := by
      have h2 : j / 2 < L.length := by omega
      simp [List.getD_eq_getElem?_getD, h2]
    rw [id, e, e2]
    rcases Nat.mod_two_eq_zero_or_one j with h | h
    · have e3 : j / 2 * 2 = j := by omega
      rw [e3] at s0
      rw [s0, h]; rfl
    · have e3 : j / 2 * 2 + 1 = j := by omega
      rw [e3] at s1
      rw [s1, h]; rfl
  have := h.cells (g := g) rfl j _ hv
  rwa [add_plain] at this
theorem below_sort {w : World} {B g m : Nat} {d : Array (Nat × Nat)} {os : Array Obj} (hg : B ≤ g) (hB : B ≤ w.heap.size) : Below B w (sortWorldK encS 2 w g 0 m d os) := by
  refine ⟨rfl, rfl, rfl, ?_, fun b hb => ?_⟩
  · simp [sortWorldK, grow, putRowK, putRow, mapBlock, Sort.ahead]
  · have h1 : b < w.heap.size := by omega
    have h2 : ¬ g = b := by omega
    simp [sortWorldK, grow, putRowK, putRow, mapBlock, Sort.ahead, Array.getElem?_append, Array.getElem_modify, h1, h2]
theorem ltS (x y : Nat × Nat) : ltOf (fun x y : Nat × Nat => cmpI x.1 y.1) x y = decide (x.1 < y.1) := by
  unfold ltOf cmpI
  by_cases h1 : x.1 < y.1
  · simp [h1]
  · by_cases h2 : y.1 < x.1 <;> simp [h1, h2]
theorem swoS : SWO (ltOf fun x y : Nat × Nat => cmpI x.1 y.1) where
  irrefl x := by rw [ltS]; simp
  trans x y z h1 h2 := by rw [ltS] at *; simp at *; omega
  ntrans x y z h1 h2 := by rw [ltS] at *; simp at *; omega
set_option maxHeartbeats 1000000 in
theorem sortf_any (g cap B : Nat) (L : List (Nat × Nat)) (w : World) (hn : L.length ≤ 1048576) (hB : B ≤ w.heap.size) (hown : w.ownsRow B 47 2 (.slice (some ⟨g, 0, none⟩) L.length cap) L.length (sv L)) :
    Calls Tryd.prog 69 #[.slice (some ⟨g, 0, none⟩) L.length cap, .func (.func 70) #[] #[]] w fun e w' =>
      e = .returned (.tuple #[]) ∧ ∃ M : List (Nat × Nat), M.Perm L ∧ (∀ i j, i < j → j < M.length → (M.getD i (0, 0)).1 ≤ (M.getD j (0, 0)).1) ∧ (∀ j, j < M.length → w'.cell? ⟨g, 0 + j * 2, none⟩ = some (.int .u32 (M.getD j (0, 0)).1) ∧ w'.cell? ⟨g, 0 + j * 2 + 1, none⟩ = some (.int .u32 (M.getD j (0, 0)).2)) ∧ Below B w w' ∧ g < w'.heap.size := by
  have eg : ∀ args w, (callFunc 70 args).run Tryd.prog w = .ok (.enter 70 args) w := enters_of Tryd.func70 (by kernel_rfl) rfl
  have hcmp : CmpLays Tryd.prog 70 #[] encS 2 (fun x y => cmpI x.1 y.1) g 0 L.toArray.size w := fun _ _ _ _ x y => by_any x y _
  have hg := hown.lt g rfl
  have hH := holdsS hown
  have hcon := AnyQ.slices_SortFunc Tryd.sortSp 2 Tryd.isAgg47 Tryd.sizeOf47 encS (fun _ => rfl) (fun x v hv => by simp [encS] at hv; rcases hv with rfl | rfl <;> rfl) (fun x y => cmpI x.1 y.1) swoS 70 #[] g 0 cap L.toArray w eg hcmp hH hg.2 (by simp; omega)
  change Calls Tryd.prog 69 _ _ _ at hcon
  have e0 : L.toArray.size = L.length := by simp
  rw [e0] at hcon
  refine hcon.mono ?_
  rintro e w' ⟨rfl, d', n, os, hp, hs, rfl⟩
  have hsz : d'.size = L.length := by have := hp.1; simpa using this
  have hH2 : HoldsK encS 2 (sortWorldK encS 2 w g 0 n d' os) g 0 d' := holdsK_grow encS 2 _ os _ _ _ (by simpa [putRowK, putRow, mapBlock, Sort.ahead] using hg.2) (holdsK_putRowK encS 2 _ _ _ L.toArray d' (holdsK_ahead encS 2 _ _ _ _ _ hH) (by simpa using hsz))
  refine ⟨rfl, d'.toList, ?_, ?_, ?_, below_sort hg.1 hB, ?_⟩
  · have := hp.2.2
    have e1 : d'.extract 0 L.length = d' := by rw [← hsz]; simp
    have e2 : L.toArray.extract 0 L.length = L.toArray := by simp
    rw [e1, e2] at this
    simpa using this
  · intro i j hij hj
    have hj' : j < L.length := by simpa [hsz] using hj
    have := hs i j (Nat.zero_le _) hij hj'
    rw [ltS, decide_eq_false_iff_not] at this
    have g1 : d'[j]! = d'.toList.getD j (0, 0) := by simp [List.getD_eq_getElem?_getD, show j < d'.size by omega]
    have g2 : d'[i]! = d'.toList.getD i (0, 0) := by simp [List.getD_eq_getElem?_getD, show i < d'.size by omega]
    rw [g1, g2] at this
    omega
  · intro j hj
    have hj' : j < d'.size := by simpa using hj
    have g1 : d'[j]! = d'.toList.getD j (0, 0) := by simp [List.getD_eq_getElem?_getD, hj']
    have c0 := (hH2.cell hj' (c := 0) (by decide)).1
    have c1 := (hH2.cell hj' (c := 1) (by decide)).1
    rw [g1] at c0 c1
    exact ⟨c0, c1⟩
  · have := (below_sort (w := w) (m := n) (d := d') (os := os) hg.1 hB).size
    omega
end Go.Proofs.YtnplimdcfbgpeaaDoor
