import Derived.Test.YtcmfephbhbgoiaaDoorJCl
import Derived.Deep.RegionHeld3
namespace Go.Proofs.YtcmfephbhbgoiaaDoor
open Go.RowKit Go.WideShapes
set_option maxRecDepth 100000
theorem cnd_out {w : World} {l : List Nat} {e : Ending} {w' : World} (h : CnD w l e w') : ∃ a c, e = .returned (.slice a l.length c) ∧ Hid (WNw w w' a l) ∧ Below w.heap.size w w' := h
theorem two_blk (w : World) (o1 o2 : Obj) : ((w.alloc o1).alloc o2).heap[w.heap.size]? = some o1 ∧ ((w.alloc o1).alloc o2).heap[w.heap.size + 1]? = some o2 ∧ ((w.alloc o1).alloc o2).heap.size = w.heap.size + 1 + 1 ∧ Below w.heap.size w ((w.alloc o1).alloc o2) := by
  refine ⟨?_, ?_, by simp, ((Below.refl w.heap.size w).alloc (Nat.le_refl _) o1).alloc (by simp) o2⟩
  · rw [Below.heap_alloc _ _ _ (by simp)]
    exact (MapKept.heap_alloc w o1).1
  · have := (MapKept.heap_alloc (w.alloc o1) o2).1
    simpa using this
theorem set4_cell (w : World) (b c i : Nat) (x0 x1 x2 x3 : Value) (h : c ≠ b) : ((((w.setCell ⟨b, 0, none⟩ x0).setCell ⟨b, 1, none⟩ x1).setCell ⟨b, 2, none⟩ x2).setCell ⟨b, 3, none⟩ x3).cell? ⟨c, i, none⟩ = w.cell? ⟨c, i, none⟩ := by
  refine World.cell?_of_block (w := w) (a := ⟨c, i, none⟩) ?_
  rw [Below.heap_setCell _ _ _ _ h, Below.heap_setCell _ _ _ _ h, Below.heap_setCell _ _ _ _ h, Below.heap_setCell _ _ _ _ h]
theorem set4_blk {w : World} {b : Nat} {y0 y1 y2 y3 : Value} {t : TypeId} (x0 x1 x2 x3 : Value) (h : w.heap[b]? = some (.cells #[y0, y1, y2, y3] t)) : ((((w.setCell ⟨b, 0, none⟩ x0).setCell ⟨b, 1, none⟩ x1).setCell ⟨b, 2, none⟩ x2).setCell ⟨b, 3, none⟩ x3).heap[b]? = some (.cells #[x0, x1, x2, x3] t) := by
  have hlt := (Array.getElem?_eq_some_iff.1 h).1
  have hv := (Array.getElem?_eq_some_iff.1 h).2
  simp [World.setCell, Array.getElem?_modify, h]
theorem set4_below (w : World) {B b : Nat} (x0 x1 x2 x3 : Value) (h : B ≤ b) : Below B w ((((w.setCell ⟨b, 0, none⟩ x0).setCell ⟨b, 1, none⟩ x1).setCell ⟨b, 2, none⟩ x2).setCell ⟨b, 3, none⟩ x3) :=
  ((((Below.refl B w).setCell (p := ⟨b, 0, none⟩) h x0).setCell (p := ⟨b, 1, none⟩) h x1).setCell (p := ⟨b, 2, none⟩) h x2).setCell (p := ⟨b, 3, none⟩) h x3
set_option maxHeartbeats 4000000 in
theorem event_ok (gg : Nat) (f : Int → Option Int) (x k : Nat) (ao ar : Option Addr) (cap cr : Nat) (J : List Nat) (v : Int) (cs : List WCell) (w : World)
    (hG : GtS w gg f) (hk : k < 4294967296) (hf : f k = some (J.length : Int)) (hr : WRd w ao J w.heap.size) (hJ : J.length ≤ 1048576) (hw : WcC w ar cs w.heap.size) (hfit : fitC cs = true) :
    Calls Tryd.prog 10 #[.pointer (some ⟨gg, 0, none⟩), .int .u32 x, .int .u32 k, .slice ao J.length cap, .agg #[.int .u32 v, .slice ar cs.length cr]] w fun e w' => ∃ a c, e = .returned (.tuple #[.agg #[.int .u32 x, .int .u32 k, .slice a J.length c, .int .u32 v], .int .i64 0]) ∧ WNw w w' a J ∧ Below w.heap.size w w' := by
  have hb2 := fun o o' => ((Below.refl w.heap.size w).alloc (Nat.le_refl _) o).alloc (by simp) o'
  have hM := fun o o' => gmade_any gg f ((w.alloc o).alloc o') (hG.kept (hb2 o o') rfl)
  have hGr := fun o o' => granted_any gg f k ((w.alloc o).alloc o') (hG.kept (hb2 o o') rfl) hk
  rw [hf] at hGr
  simp only [Option.getD_some, Option.isSome_some] at hGr
  have hF := fun o o' => fits_any v ar cr cs ((w.alloc o).alloc o') ((hw.below (hb2 o o')).mono (hb2 o o').size)
  rw [hfit] at hF
  go_enter Tryd.func10, Tryd.ntmps10
  go_wp2_with (first
    | (go_at_call 24; with_reducible refine (hM _ _).mono ?_; rintro e wq ⟨rfl, hq⟩; subst wq)
    | (go_at_call 8; with_reducible refine (hGr _ _).mono ?_; rintro e wq ⟨rfl, hq⟩; subst wq)
    | (go_at_call 27; with_reducible refine (hF _ _).mono ?_; rintro e w1 ⟨rfl, hq1⟩))
  obtain ⟨t1, t2, t3, t4⟩ := two_blk w (.cells #[.int .u32 v, .slice ar cs.length cr] 27) (.cells #[.int .u32 0, .int .u32 0, .slice none 0 0, .int .u32 0] 50)
  generalize ((w.alloc (.cells #[.int .u32 v, .slice ar cs.length cr] 27)).alloc (.cells #[.int .u32 0, .int .u32 0, .slice none 0 0, .int .u32 0] 50)) = W2 at *
  have hB1 : Below w.heap.size w w1 := t4.trans (hq1.mono (by omega))
  have hs1 := hq1.size
  have HV : Hid (∀ U, Below w1.heap.size w1 U → U.cell? ⟨w.heap.size, 0, none⟩ = some (.int .u32 v)) := fun U hU => (hU.cell (p := ⟨w.heap.size, 0, none⟩) (by show w.heap.size < _; omega)).trans ((hq1.cell (p := ⟨w.heap.size, 0, none⟩) (by show w.heap.size < _; omega)).trans (gobj_cell t1 0))
  have HE : Hid (∀ U, Below w1.heap.size w1 U → U.heap[w.heap.size + 1]? = some (.cells #[.int .u32 0, .int .u32 0, .slice none 0 0, .int .u32 0] 50)) := fun U hU => (hU.block _ (by omega)).trans ((hq1.block _ (by omega)).trans t2)
  have HCl : Hid (∀ U, Below w1.heap.size w1 U → Calls Tryd.prog 28 #[.slice ao J.length cap] U (CnD U J)) := fun U hU => dclone_any ao cap J U hJ ((hr.below (hB1.trans (hU.mono hB1.size))).mono (gbt hU hB1).size)
  have HB : Hid (Below w1.heap.size w1 w1) := Below.refl _ _
  have HBd : Hid (Below w1.heap.size w1 w1.drew) := ⟨rfl, rfl, rfl, Nat.le_refl _, fun _ _ => rfl⟩
  clear t1 t2 t4 hq1 hF hGr hM hw hr
  go_region_held3 (fun U => U.cell? ⟨w.heap.size, 0, none⟩ = some (.int .u32 v)) (first | exact HV.out _ HBd.out | exact HV.out _ HB.out | exact HV.out _ (gbt hb3 HBd.out) | (rw [set4_cell _ _ _ _ _ _ _ _ (by omega)]; exact HV.out _ (gbt hb3 HBd.out))) (first
    | (go_at_call 28; with_reducible refine (HCl.out _ HBd.out).mono ?_; intro e w3 hz; obtain ⟨an, cn, rfl, hW3, hb3⟩ := cnd_out hz; clear hz; have E3 := HE.out _ (gbt hb3 HBd.out); have k0 := gobj_cell E3 0; have k1 := gobj_cell E3 1; have k2 := gobj_cell E3 2; have k3 := gobj_cell E3 3; have z0 := obj_frozen E3 0; have z1 := obj_frozen E3 1; have z2 := obj_frozen E3 2; have z3 := obj_frozen E3 3; clear E3))
  have hb3' := gbt hb3 HBd.out
  have F := set4_blk (.int .u32 (x : Int)) (.int .u32 (k : Int)) (.slice an J.length cn) (.int .u32 v) (HE.out w3 hb3')
  have hX3 := gbt hb3' hB1
  have hX4 := hX3.trans (set4_below w3 (.int .u32 (x : Int)) (.int .u32 (k : Int)) (.slice an J.length cn) (.int .u32 v) (show w.heap.size ≤ w.heap.size + 1 by omega))
  have hW4 : WNw w ((((w3.setCell ⟨w.heap.size + 1, 0, none⟩ (.int .u32 (x : Int))).setCell ⟨w.heap.size + 1, 1, none⟩ (.int .u32 (k : Int))).setCell ⟨w.heap.size + 1, 2, none⟩ (.slice an J.length cn)).setCell ⟨w.heap.size + 1, 3, none⟩ (.int .u32 v)) an J := by
    intro hp
    obtain ⟨g, e1, e2, e3, e4⟩ := hW3.out hp
    have e2' : w1.heap.size ≤ g := e2
    refine ⟨g, e1, by have := hB1.size; omega, by simp [World.setCell]; omega, fun j hj => ?_⟩
    rw [set4_cell _ _ _ _ _ _ _ _ (by omega)]
    exact e4 j hj
  clear k0 k1 k2 k3 z0 z1 z2 z3 hW3 HV HE HCl HB HBd hb3 hb3' hX3
  generalize ((((w3.setCell ⟨w.heap.size + 1, 0, none⟩ (.int .u32 (x : Int))).setCell ⟨w.heap.size + 1, 1, none⟩ (.int .u32 (k : Int))).setCell ⟨w.heap.size + 1, 2, none⟩ (.slice an J.length cn)).setCell ⟨w.heap.size + 1, 3, none⟩ (.int .u32 v)) = W4 at *
  have u0 := gobj_cell F 0
  have u1 := gobj_cell F 1
  have u2 := gobj_cell F 2
  have u3 := gobj_cell F 3
  go_wp2
  exact bodyPost_ret (v := .tuple #[.agg #[.int .u32 x, .int .u32 k, .slice an J.length cn, .int .u32 v], .int .i64 0]) (by simp [results, Tryd.results10, go_sem, u0, u1, u2, u3]) rfl ⟨an, cn, rfl, hW4, hX4⟩
end Go.Proofs.YtcmfephbhbgoiaaDoor
