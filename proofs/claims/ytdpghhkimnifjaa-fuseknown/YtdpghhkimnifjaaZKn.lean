import Derived.Test.YtdpghhkimnifjaaCZAw
import Derived.Test.YtdpghhkimnifjaaZFt
import Derived.Deep.RegionHeld3
namespace Go.Proofs.Ytdpghhkimnifjaa
open Go.RowKit Go.WideShapes Go.Shelf
set_option maxRecDepth 100000

def knL : List (Nat × Nat) := [(9, 8), (9, 8), (31, 0), (8, 1), (39, 0), (34, 0), (8, 2), (8, 3), (41, 0), (15, 0), (9, 4), (31, 0), (13, 3)]
theorem knL_wf : Wfc knL := by unfold Wfc knL; decide +kernel
abbrev knC : Array Value := #[.int .u8 9, .int .u32 8, .int .u8 9, .int .u32 8, .int .u8 31, .int .u32 0, .int .u8 8, .int .u32 1, .int .u8 39, .int .u32 0, .int .u8 34, .int .u32 0, .int .u8 8, .int .u32 2, .int .u8 8, .int .u32 3, .int .u8 41, .int .u32 0, .int .u8 15, .int .u32 0, .int .u8 9, .int .u32 4, .int .u8 31, .int .u32 0, .int .u8 13, .int .u32 3]
abbrev knA : Array Value := #[.int .u32 0, .int .u32 0, .int .u32 1, .int .u32 3, .int .u32 6, .int .u32 6, .int .u32 10]
abbrev knE : Array Value := #[.int .u32 13, .int .u32 5, .int .u32 13, .int .u32 13, .int .u32 9, .int .u32 13, .int .u32 13]
abbrev knW : Array Value := #[.int .u32 0, .int .u32 6, .int .u8 15, .int .u8 39, .int .u32 8, .int .u32 1, .int .u32 0, .int .u32 1, .int .u8 1, .int .u8 9, .int .u32 8, .int .u32 0, .int .u32 1, .int .u32 2, .int .u8 12, .int .u8 31, .int .u32 8, .int .u32 0, .int .u32 3, .int .u32 2, .int .u8 5, .int .u8 39, .int .u32 1, .int .u32 0, .int .u32 6, .int .u32 3, .int .u8 2, .int .u8 0, .int .u32 6, .int .u32 0, .int .u32 6, .int .u32 4, .int .u8 6, .int .u8 15, .int .u32 6, .int .u32 0, .int .u32 10, .int .u32 3, .int .u8 14, .int .u8 13, .int .u32 4, .int .u32 3]
theorem kn0 : fzT (flV knL 0 13) = (0, 6, 15, 39, 8, 1) ∧ flE knL 0 13 = 0 := by decide +kernel
theorem kn0_call (b : Nat) (w : World) (h : w.heap[b]? = some (.cells knC 36)) :
    Calls Try.prog 8 #[.slice (some ⟨b, 0, none⟩) 13 13, .int .u32 0, .int .u32 13] w fun x w' => x = .returned (.tuple #[.agg #[.int .u32 0, .int .u32 6, .int .u8 15, .int .u8 39, .int .u32 8, .int .u32 1], .int .i64 0]) ∧ Below w.heap.size w w' := by
  have := flongest_any (some ⟨b, 0, none⟩) 13 0 13 knL w (by decide) (by decide) (by decide) (by decide) knL_wf (crd_blkD h rfl)
  rw [fzT_inj kn0.1, kn0.2] at this
  exact this
theorem kn1 : fzT (flV knL 0 5) = (0, 1, 1, 9, 8, 0) ∧ flE knL 0 5 = 0 := by decide +kernel
theorem kn1_call (b : Nat) (w : World) (h : w.heap[b]? = some (.cells knC 36)) :
    Calls Try.prog 8 #[.slice (some ⟨b, 0, none⟩) 13 13, .int .u32 0, .int .u32 5] w fun x w' => x = .returned (.tuple #[.agg #[.int .u32 0, .int .u32 1, .int .u8 1, .int .u8 9, .int .u32 8, .int .u32 0], .int .i64 0]) ∧ Below w.heap.size w w' := by
  have := flongest_any (some ⟨b, 0, none⟩) 13 0 5 knL w (by decide) (by decide) (by decide) (by decide) knL_wf (crd_blkD h rfl)
  rw [fzT_inj kn1.1, kn1.2] at this
  exact this
theorem kn2 : fzT (flV knL 1 13) = (1, 2, 12, 31, 8, 0) ∧ flE knL 1 13 = 0 := by decide +kernel
theorem kn2_call (b : Nat) (w : World) (h : w.heap[b]? = some (.cells knC 36)) :
    Calls Try.prog 8 #[.slice (some ⟨b, 0, none⟩) 13 13, .int .u32 1, .int .u32 13] w fun x w' => x = .returned (.tuple #[.agg #[.int .u32 1, .int .u32 2, .int .u8 12, .int .u8 31, .int .u32 8, .int .u32 0], .int .i64 0]) ∧ Below w.heap.size w w' := by
  have := flongest_any (some ⟨b, 0, none⟩) 13 1 13 knL w (by decide) (by decide) (by decide) (by decide) knL_wf (crd_blkD h rfl)
  rw [fzT_inj kn2.1, kn2.2] at this
  exact this
theorem kn3 : fzT (flV knL 3 13) = (3, 2, 5, 39, 1, 0) ∧ flE knL 3 13 = 0 := by decide +kernel
theorem kn3_call (b : Nat) (w : World) (h : w.heap[b]? = some (.cells knC 36)) :
    Calls Try.prog 8 #[.slice (some ⟨b, 0, none⟩) 13 13, .int .u32 3, .int .u32 13] w fun x w' => x = .returned (.tuple #[.agg #[.int .u32 3, .int .u32 2, .int .u8 5, .int .u8 39, .int .u32 1, .int .u32 0], .int .i64 0]) ∧ Below w.heap.size w w' := by
  have := flongest_any (some ⟨b, 0, none⟩) 13 3 13 knL w (by decide) (by decide) (by decide) (by decide) knL_wf (crd_blkD h rfl)
  rw [fzT_inj kn3.1, kn3.2] at this
  exact this
theorem kn4 : fzT (flV knL 6 9) = (6, 3, 2, 0, 6, 0) ∧ flE knL 6 9 = 0 := by decide +kernel
theorem kn4_call (b : Nat) (w : World) (h : w.heap[b]? = some (.cells knC 36)) :
    Calls Try.prog 8 #[.slice (some ⟨b, 0, none⟩) 13 13, .int .u32 6, .int .u32 9] w fun x w' => x = .returned (.tuple #[.agg #[.int .u32 6, .int .u32 3, .int .u8 2, .int .u8 0, .int .u32 6, .int .u32 0], .int .i64 0]) ∧ Below w.heap.size w w' := by
  have := flongest_any (some ⟨b, 0, none⟩) 13 6 9 knL w (by decide) (by decide) (by decide) (by decide) knL_wf (crd_blkD h rfl)
  rw [fzT_inj kn4.1, kn4.2] at this
  exact this
theorem kn5 : fzT (flV knL 6 13) = (6, 4, 6, 15, 6, 0) ∧ flE knL 6 13 = 0 := by decide +kernel
theorem kn5_call (b : Nat) (w : World) (h : w.heap[b]? = some (.cells knC 36)) :
    Calls Try.prog 8 #[.slice (some ⟨b, 0, none⟩) 13 13, .int .u32 6, .int .u32 13] w fun x w' => x = .returned (.tuple #[.agg #[.int .u32 6, .int .u32 4, .int .u8 6, .int .u8 15, .int .u32 6, .int .u32 0], .int .i64 0]) ∧ Below w.heap.size w w' := by
  have := flongest_any (some ⟨b, 0, none⟩) 13 6 13 knL w (by decide) (by decide) (by decide) (by decide) knL_wf (crd_blkD h rfl)
  rw [fzT_inj kn5.1, kn5.2] at this
  exact this
theorem kn6 : fzT (flV knL 10 13) = (10, 3, 14, 13, 4, 3) ∧ flE knL 10 13 = 0 := by decide +kernel
theorem kn6_call (b : Nat) (w : World) (h : w.heap[b]? = some (.cells knC 36)) :
    Calls Try.prog 8 #[.slice (some ⟨b, 0, none⟩) 13 13, .int .u32 10, .int .u32 13] w fun x w' => x = .returned (.tuple #[.agg #[.int .u32 10, .int .u32 3, .int .u8 14, .int .u8 13, .int .u32 4, .int .u32 3], .int .i64 0]) ∧ Below w.heap.size w w' := by
  have := flongest_any (some ⟨b, 0, none⟩) 13 10 13 knL w (by decide) (by decide) (by decide) (by decide) knL_wf (crd_blkD h rfl)
  rw [fzT_inj kn6.1, kn6.2] at this
  exact this
theorem kfa : (fzT (ftV knL 5 13 1).1, (ftV knL 5 13 1).2) = ((5, 1, 1, 34, 0, 0), true) := by decide +kernel
theorem kfa_call (b : Nat) (w : World) (h : w.heap[b]? = some (.cells knC 36)) :
    Calls Try.prog 17 #[.slice (some ⟨b, 0, none⟩) 13 13, .int .u32 5, .int .u32 13, .int .u8 1] w fun x w' => x = .returned (.tuple #[.agg #[.int .u32 5, .int .u32 1, .int .u8 1, .int .u8 34, .int .u32 0, .int .u32 0], .bool true]) ∧ Below w.heap.size w w' := by
  have := fits_any (some ⟨b, 0, none⟩) 13 5 13 1 knL w (by decide) (by decide) (by decide) (by decide) knL_wf (crd_blkD h rfl)
  have e := kfa
  simp only [Prod.mk.injEq] at e
  rw [fzT_inj e.1, e.2] at this
  exact this
theorem kfb : (fzT (ftV knL 0 14 1).1, (ftV knL 0 14 1).2) = ((0, 0, 0, 0, 0, 0), false) := by decide +kernel
theorem kfb_call (b : Nat) (w : World) (h : w.heap[b]? = some (.cells knC 36)) :
    Calls Try.prog 17 #[.slice (some ⟨b, 0, none⟩) 13 13, .int .u32 0, .int .u32 14, .int .u8 1] w fun x w' => x = .returned (.tuple #[.agg #[.int .u32 0, .int .u32 0, .int .u8 0, .int .u8 0, .int .u32 0, .int .u32 0], .bool false]) ∧ Below w.heap.size w w' := by
  have := fits_any (some ⟨b, 0, none⟩) 13 0 14 1 knL w (by decide) (by decide) (by decide) (by decide) knL_wf (crd_blkD h rfl)
  have e := kfb
  simp only [Prod.mk.injEq] at e
  rw [fzT_inj e.1, e.2] at this
  exact this
theorem kfc : (fzT (ftV knL 0 13 99).1, (ftV knL 0 13 99).2) = ((0, 0, 0, 0, 0, 0), false) := by decide +kernel
theorem kfc_call (b : Nat) (w : World) (h : w.heap[b]? = some (.cells knC 36)) :
    Calls Try.prog 17 #[.slice (some ⟨b, 0, none⟩) 13 13, .int .u32 0, .int .u32 13, .int .u8 99] w fun x w' => x = .returned (.tuple #[.agg #[.int .u32 0, .int .u32 0, .int .u8 0, .int .u8 0, .int .u32 0, .int .u32 0], .bool false]) ∧ Below w.heap.size w w' := by
  have := fits_any (some ⟨b, 0, none⟩) 13 0 13 99 knL w (by decide) (by decide) (by decide) (by decide) knL_wf (crd_blkD h rfl)
  have e := kfc
  simp only [Prod.mk.injEq] at e
  rw [fzT_inj e.1, e.2] at this
  exact this
structure KnS (w W : World) : Prop where
  bl : Below w.heap.size w W
  h0 : W.heap[w.heap.size]? = some (.cells knC 36)
  h1 : W.heap[w.heap.size + 1]? = some (.cells knA 23)
  h2 : W.heap[w.heap.size + 1 + 1]? = some (.cells knE 23)
  h3 : W.heap[w.heap.size + 1 + 1 + 1]? = some (.cells knW 30)
theorem KnS.next {w W V : World} (h : KnS w W) (hb : Below W.heap.size W V) : KnS w V := by
  have hl := (Array.getElem?_eq_some_iff.1 h.h3).1
  exact ⟨h.bl.trans (hb.mono h.bl.size), (hb.block _ (by omega)).trans h.h0, (hb.block _ (by omega)).trans h.h1, (hb.block _ (by omega)).trans h.h2, (hb.block _ hl).trans h.h3⟩
theorem KnS.drew {w W : World} (h : KnS w W) : KnS w W.drew := ⟨⟨h.bl.os, h.bl.tape, h.bl.output, h.bl.size, h.bl.block⟩, h.h0, h.h1, h.h2, h.h3⟩
theorem KnS.drewN {w W : World} (h : KnS w W) (n : Nat) : KnS w (W.drewN n) := ⟨⟨h.bl.os, h.bl.tape, h.bl.output, h.bl.size, h.bl.block⟩, h.h0, h.h1, h.h2, h.h3⟩
theorem KnS.two {w W : World} (h : KnS w W) (i : Nat) (hi : i < 7) : W.cell? ⟨w.heap.size + 1, i, none⟩ = some (.int .u32 (([0, 0, 1, 3, 6, 6, 10].getD i 0 : Nat) : Int)) ∧ W.cell? ⟨w.heap.size + 1 + 1, i, none⟩ = some (.int .u32 (([13, 5, 13, 13, 9, 13, 13].getD i 0 : Nat) : Int)) := by
  have h1 := obj_cell h.h1 i
  have h2 := obj_cell h.h2 i
  match i, hi with
  | 0, _ => exact ⟨h1, h2⟩
  | 1, _ => exact ⟨h1, h2⟩
  | 2, _ => exact ⟨h1, h2⟩
  | 3, _ => exact ⟨h1, h2⟩
  | 4, _ => exact ⟨h1, h2⟩
  | 5, _ => exact ⟨h1, h2⟩
  | 6, _ => exact ⟨h1, h2⟩
theorem KnS.kept {w W V : World} (h : KnS w W) {S : Nat → Prop} (hk : Kp S W V) (hS : ∀ i, S i → w.heap.size + 4 ≤ i) : KnS w V := by
  have hl := (Array.getElem?_eq_some_iff.1 h.h3).1
  exact ⟨h.bl.trans (hk.below h.bl.size (fun i e => by have := hS i e; omega)), (hk.block _ (by omega) (fun e => by have := hS _ e; omega)).trans h.h0, (hk.block _ (by omega) (fun e => by have := hS _ e; omega)).trans h.h1, (hk.block _ (by omega) (fun e => by have := hS _ e; omega)).trans h.h2, (hk.block _ hl (fun e => by have := hS _ e; omega)).trans h.h3⟩
theorem KnS.put {w W : World} (h : KnS w W) (f : Fz) : KnS w (put6 (W.alloc (.cells (fzA fz0) 30)) W.heap.size f) ∧ (put6 (W.alloc (.cells (fzA fz0) 30)) W.heap.size f).heap[W.heap.size]? = some (.cells (fzA f) 30) := by
  have hl := (Array.getElem?_eq_some_iff.1 h.h3).1
  obtain ⟨h1, h2⟩ := put6_any (f := fz0) (f' := f) (heap_alloc_new W (.cells (fzA fz0) 30))
  exact ⟨(h.next (bel1 W _)).kept h2 (fun i e => by omega), h1⟩
theorem KnS.put2 {w W : World} {b : Nat} (h : KnS w W) (hb : W.heap[b]? = some (.cells (fzA fz0) 30)) (hw : w.heap.size + 4 ≤ b) (f : Fz) : KnS w (put6 W b f) ∧ (put6 W b f).heap[b]? = some (.cells (fzA f) 30) := by
  obtain ⟨h1, h2⟩ := put6_any (f := fz0) (f' := f) hb
  exact ⟨h.kept h2 (fun i e => by omega), h1⟩
theorem KnS.w0 {w W : World} (h : KnS w W) : W.cell? ⟨w.heap.size + 1 + 1 + 1, 0, none⟩ = some (.int .u32 0) ∧ W.cell? ⟨w.heap.size + 1 + 1 + 1, 1, none⟩ = some (.int .u32 6) ∧ W.cell? ⟨w.heap.size + 1 + 1 + 1, 2, none⟩ = some (.int .u8 15) ∧ W.cell? ⟨w.heap.size + 1 + 1 + 1, 3, none⟩ = some (.int .u8 39) ∧ W.cell? ⟨w.heap.size + 1 + 1 + 1, 4, none⟩ = some (.int .u32 8) ∧ W.cell? ⟨w.heap.size + 1 + 1 + 1, 5, none⟩ = some (.int .u32 1) :=
  ⟨(obj_cell h.h3 0).trans (by kernel_rfl), (obj_cell h.h3 1).trans (by kernel_rfl), (obj_cell h.h3 2).trans (by kernel_rfl), (obj_cell h.h3 3).trans (by kernel_rfl), (obj_cell h.h3 4).trans (by kernel_rfl), (obj_cell h.h3 5).trans (by kernel_rfl)⟩
theorem KnS.w1 {w W : World} (h : KnS w W) : W.cell? ⟨w.heap.size + 1 + 1 + 1, 6, none⟩ = some (.int .u32 0) ∧ W.cell? ⟨w.heap.size + 1 + 1 + 1, 7, none⟩ = some (.int .u32 1) ∧ W.cell? ⟨w.heap.size + 1 + 1 + 1, 8, none⟩ = some (.int .u8 1) ∧ W.cell? ⟨w.heap.size + 1 + 1 + 1, 9, none⟩ = some (.int .u8 9) ∧ W.cell? ⟨w.heap.size + 1 + 1 + 1, 10, none⟩ = some (.int .u32 8) ∧ W.cell? ⟨w.heap.size + 1 + 1 + 1, 11, none⟩ = some (.int .u32 0) :=
  ⟨(obj_cell h.h3 6).trans (by kernel_rfl), (obj_cell h.h3 7).trans (by kernel_rfl), (obj_cell h.h3 8).trans (by kernel_rfl), (obj_cell h.h3 9).trans (by kernel_rfl), (obj_cell h.h3 10).trans (by kernel_rfl), (obj_cell h.h3 11).trans (by kernel_rfl)⟩
theorem KnS.w2 {w W : World} (h : KnS w W) : W.cell? ⟨w.heap.size + 1 + 1 + 1, 12, none⟩ = some (.int .u32 1) ∧ W.cell? ⟨w.heap.size + 1 + 1 + 1, 13, none⟩ = some (.int .u32 2) ∧ W.cell? ⟨w.heap.size + 1 + 1 + 1, 14, none⟩ = some (.int .u8 12) ∧ W.cell? ⟨w.heap.size + 1 + 1 + 1, 15, none⟩ = some (.int .u8 31) ∧ W.cell? ⟨w.heap.size + 1 + 1 + 1, 16, none⟩ = some (.int .u32 8) ∧ W.cell? ⟨w.heap.size + 1 + 1 + 1, 17, none⟩ = some (.int .u32 0) :=
  ⟨(obj_cell h.h3 12).trans (by kernel_rfl), (obj_cell h.h3 13).trans (by kernel_rfl), (obj_cell h.h3 14).trans (by kernel_rfl), (obj_cell h.h3 15).trans (by kernel_rfl), (obj_cell h.h3 16).trans (by kernel_rfl), (obj_cell h.h3 17).trans (by kernel_rfl)⟩
theorem KnS.w3 {w W : World} (h : KnS w W) : W.cell? ⟨w.heap.size + 1 + 1 + 1, 18, none⟩ = some (.int .u32 3) ∧ W.cell? ⟨w.heap.size + 1 + 1 + 1, 19, none⟩ = some (.int .u32 2) ∧ W.cell? ⟨w.heap.size + 1 + 1 + 1, 20, none⟩ = some (.int .u8 5) ∧ W.cell? ⟨w.heap.size + 1 + 1 + 1, 21, none⟩ = some (.int .u8 39) ∧ W.cell? ⟨w.heap.size + 1 + 1 + 1, 22, none⟩ = some (.int .u32 1) ∧ W.cell? ⟨w.heap.size + 1 + 1 + 1, 23, none⟩ = some (.int .u32 0) :=
  ⟨(obj_cell h.h3 18).trans (by kernel_rfl), (obj_cell h.h3 19).trans (by kernel_rfl), (obj_cell h.h3 20).trans (by kernel_rfl), (obj_cell h.h3 21).trans (by kernel_rfl), (obj_cell h.h3 22).trans (by kernel_rfl), (obj_cell h.h3 23).trans (by kernel_rfl)⟩
theorem KnS.w4 {w W : World} (h : KnS w W) : W.cell? ⟨w.heap.size + 1 + 1 + 1, 24, none⟩ = some (.int .u32 6) ∧ W.cell? ⟨w.heap.size + 1 + 1 + 1, 25, none⟩ = some (.int .u32 3) ∧ W.cell? ⟨w.heap.size + 1 + 1 + 1, 26, none⟩ = some (.int .u8 2) ∧ W.cell? ⟨w.heap.size + 1 + 1 + 1, 27, none⟩ = some (.int .u8 0) ∧ W.cell? ⟨w.heap.size + 1 + 1 + 1, 28, none⟩ = some (.int .u32 6) ∧ W.cell? ⟨w.heap.size + 1 + 1 + 1, 29, none⟩ = some (.int .u32 0) :=
  ⟨(obj_cell h.h3 24).trans (by kernel_rfl), (obj_cell h.h3 25).trans (by kernel_rfl), (obj_cell h.h3 26).trans (by kernel_rfl), (obj_cell h.h3 27).trans (by kernel_rfl), (obj_cell h.h3 28).trans (by kernel_rfl), (obj_cell h.h3 29).trans (by kernel_rfl)⟩
theorem KnS.w5 {w W : World} (h : KnS w W) : W.cell? ⟨w.heap.size + 1 + 1 + 1, 30, none⟩ = some (.int .u32 6) ∧ W.cell? ⟨w.heap.size + 1 + 1 + 1, 31, none⟩ = some (.int .u32 4) ∧ W.cell? ⟨w.heap.size + 1 + 1 + 1, 32, none⟩ = some (.int .u8 6) ∧ W.cell? ⟨w.heap.size + 1 + 1 + 1, 33, none⟩ = some (.int .u8 15) ∧ W.cell? ⟨w.heap.size + 1 + 1 + 1, 34, none⟩ = some (.int .u32 6) ∧ W.cell? ⟨w.heap.size + 1 + 1 + 1, 35, none⟩ = some (.int .u32 0) :=
  ⟨(obj_cell h.h3 30).trans (by kernel_rfl), (obj_cell h.h3 31).trans (by kernel_rfl), (obj_cell h.h3 32).trans (by kernel_rfl), (obj_cell h.h3 33).trans (by kernel_rfl), (obj_cell h.h3 34).trans (by kernel_rfl), (obj_cell h.h3 35).trans (by kernel_rfl)⟩
theorem KnS.w6 {w W : World} (h : KnS w W) : W.cell? ⟨w.heap.size + 1 + 1 + 1, 36, none⟩ = some (.int .u32 10) ∧ W.cell? ⟨w.heap.size + 1 + 1 + 1, 37, none⟩ = some (.int .u32 3) ∧ W.cell? ⟨w.heap.size + 1 + 1 + 1, 38, none⟩ = some (.int .u8 14) ∧ W.cell? ⟨w.heap.size + 1 + 1 + 1, 39, none⟩ = some (.int .u8 13) ∧ W.cell? ⟨w.heap.size + 1 + 1 + 1, 40, none⟩ = some (.int .u32 4) ∧ W.cell? ⟨w.heap.size + 1 + 1 + 1, 41, none⟩ = some (.int .u32 3) :=
  ⟨(obj_cell h.h3 36).trans (by kernel_rfl), (obj_cell h.h3 37).trans (by kernel_rfl), (obj_cell h.h3 38).trans (by kernel_rfl), (obj_cell h.h3 39).trans (by kernel_rfl), (obj_cell h.h3 40).trans (by kernel_rfl), (obj_cell h.h3 41).trans (by kernel_rfl)⟩
def atK (k : Nat) : Nat := [0, 0, 1, 3, 6, 6, 10].getD k 0
def enK (k : Nat) : Nat := [13, 5, 13, 13, 9, 13, 13].getD k 0
def wnK (k : Nat) : Fz := ([⟨0, 6, 15, 39, 8, 1⟩, ⟨0, 1, 1, 9, 8, 0⟩, ⟨1, 2, 12, 31, 8, 0⟩, ⟨3, 2, 5, 39, 1, 0⟩, ⟨6, 3, 2, 0, 6, 0⟩, ⟨6, 4, 6, 15, 6, 0⟩, ⟨10, 3, 14, 13, 4, 3⟩] : List Fz).getD k fz0
theorem knK_call (k : Nat) (hk : k < 7) (b : Nat) (w : World) (h : w.heap[b]? = some (.cells knC 36)) :
    Calls Try.prog 8 #[.slice (some ⟨b, 0, none⟩) 13 13, .int .u32 (atK k : Nat), .int .u32 (enK k : Nat)] w fun x w' => x = .returned (.tuple #[.agg (fzA (wnK k)), .int .i64 0]) ∧ Below w.heap.size w w' := by
  match k, hk with
  | 0, _ => exact kn0_call b w h
  | 1, _ => exact kn1_call b w h
  | 2, _ => exact kn2_call b w h
  | 3, _ => exact kn3_call b w h
  | 4, _ => exact kn4_call b w h
  | 5, _ => exact kn5_call b w h
  | 6, _ => exact kn6_call b w h
theorem KnS.wn {w W : World} (h : KnS w W) (k : Nat) (hk : k < 7) : W.cell? ⟨w.heap.size + 1 + 1 + 1, k * 6, none⟩ = some (.int .u32 ((wnK k).at_ : Int)) ∧ W.cell? ⟨w.heap.size + 1 + 1 + 1, k * 6 + 1, none⟩ = some (.int .u32 ((wnK k).len : Int)) ∧ W.cell? ⟨w.heap.size + 1 + 1 + 1, k * 6 + 2, none⟩ = some (.int .u8 ((wnK k).kind : Int)) ∧ W.cell? ⟨w.heap.size + 1 + 1 + 1, k * 6 + 3, none⟩ = some (.int .u8 ((wnK k).op : Int)) ∧ W.cell? ⟨w.heap.size + 1 + 1 + 1, k * 6 + 4, none⟩ = some (.int .u32 ((wnK k).a : Int)) ∧ W.cell? ⟨w.heap.size + 1 + 1 + 1, k * 6 + 5, none⟩ = some (.int .u32 ((wnK k).b : Int)) := by
  match k, hk with
  | 0, _ => exact h.w0
  | 1, _ => exact h.w1
  | 2, _ => exact h.w2
  | 3, _ => exact h.w3
  | 4, _ => exact h.w4
  | 5, _ => exact h.w5
  | 6, _ => exact h.w6
theorem KnS.tw {w W : World} (h : KnS w W) (k : Nat) (hk : k < 7) : W.cell? ⟨w.heap.size + 1, k, none⟩ = some (.int .u32 (atK k : Nat)) ∧ W.cell? ⟨w.heap.size + 1 + 1, k, none⟩ = some (.int .u32 (enK k : Nat)) := h.two k hk
theorem KnS.lt {w W : World} (h : KnS w W) : w.heap.size + 4 ≤ W.heap.size := (Array.getElem?_eq_some_iff.1 h.h3).1
end Go.Proofs.Ytdpghhkimnifjaa
