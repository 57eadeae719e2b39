import Derived.Test.YtonmoidalkcmoaaCZRw
import Derived.Shelf.Abstract
namespace Go.Proofs.Ytonmoidalkcmoaa
open Go.RowKit Go.WideShapes Go.Shelf
set_option maxRecDepth 100000
theorem cell0 (w : World) (v : Value) (t : TypeId) : (w.alloc (.cells #[v] t)).cell? ⟨w.heap.size, 0, none⟩ = some v := by
  rw [obj_cell (heap_alloc_new w _)]; rfl
theorem bel1 (w : World) (o : Obj) : Below w.heap.size w (w.alloc o) := (Below.refl _ w).alloc (Nat.le_refl _) o
theorem only_any {B : Nat} (k : Nat) (w : World) (hB : B ≤ w.heap.size) :
    Calls Try.prog 45 #[.int .u8 (k : Int)] w fun e w' => ∃ v, e = .returned v ∧ LkS B w' v (lkOnly k) ∧ Below w.heap.size w w' := by
  have eg : ∀ args w, (callFunc 60 args).run Try.prog w = .ok (.enter 60 args) w := enters_of Try.func60 (by kernel_rfl) rfl
  have H : Hid (∀ t, LkS B (w.alloc (.cells #[.int .u8 (k : Int)] t)) (.func (.func 60) #[] #[.pointer (some ⟨w.heap.size, 0, none⟩)]) (lkOnly k)) :=
    dhid (fun t => ⟨_, _, rfl, eg, fun W hW p f _ _ => only1_any k w.heap.size p f W (by have := hW.1; simp at this; omega) (hW.cellv (p := ⟨w.heap.size, 0, none⟩) hB (cell0 w _ t))⟩)
  go_enter Try.func45, Try.ntmps45
  go_wp2
  go_ret
  exact ⟨_, rfl, H.out _, bel1 _ _⟩
theorem single_any {B : Nat} (v : Value) (lk : Lk) (w : World) (hv : LkS B w v lk) (hB : B ≤ w.heap.size) :
    Calls Try.prog 40 #[v] w fun e w' => ∃ u, e = .returned u ∧ PtS B w' u (ptSingle lk) ∧ Below w.heap.size w w' := by
  have eg : ∀ args w, (callFunc 59 args).run Try.prog w = .ok (.enter 59 args) w := enters_of Try.func59 (by kernel_rfl) rfl
  have H : Hid (∀ t, PtS B (w.alloc (.cells #[v] t)) (.func (.func 59) #[] #[.pointer (some ⟨w.heap.size, 0, none⟩)]) (ptSingle lk)) :=
    dhid (fun t => ⟨_, _, rfl, eg, fun W hW ao cap L f _ hl hwf hr => single1_any w.heap.size lk v ao cap L f W (by have := hW.1; simp at this; omega) (hW.cellv (p := ⟨w.heap.size, 0, none⟩) hB (cell0 w _ t)) ((hv.next (bel1 w _)).nextF hW) hl hwf hr⟩)
  obtain ⟨g, lb, rfl, _, _⟩ := hv
  go_enter Try.func40, Try.ntmps40
  go_wp2
  go_ret
  exact ⟨_, rfl, H.out _, bel1 _ _⟩
theorem LyS.nextF {B : Nat} {w w' : World} {v : Value} {lay : Fz → Nat → Fz} (h : LyS B w v lay) (hb : Fr B w w') : LyS B w' v lay := by
  obtain ⟨g, lb, h1, h2, h3⟩ := h
  exact ⟨g, lb, h1, h2, fun W hW => h3 W (hb.trans hW)⟩
theorem LyS.next {B : Nat} {w w' : World} {v : Value} {lay : Fz → Nat → Fz} (h : LyS B w v lay) (hb : Below w.heap.size w w') : LyS B w' v lay := by
  obtain ⟨g, lb, h1, h2, h3⟩ := h
  exact ⟨g, lb, h1, h2, fun W hW => h3 W ((Fr.of hb).trans hW)⟩
theorem constantInto_any {B : Nat} (v : Value) (lay : Fz → Nat → Fz) (w : World) (hv : LyS B w v lay) (hB : B ≤ w.heap.size) :
    Calls Try.prog 38 #[v] w fun e w' => ∃ u, e = .returned u ∧ PtS B w' u (ptConst lay) ∧ Below w.heap.size w w' := by
  have eg : ∀ args w, (callFunc 57 args).run Try.prog w = .ok (.enter 57 args) w := enters_of Try.func57 (by kernel_rfl) rfl
  have H : Hid (∀ t, PtS B (w.alloc (.cells #[v] t)) (.func (.func 57) #[] #[.pointer (some ⟨w.heap.size, 0, none⟩)]) (ptConst lay)) :=
    dhid (fun t => ⟨_, _, rfl, eg, fun W hW ao cap L f hc hl hwf hr => constantInto1_any w.heap.size lay v ao cap L f W (by have := hW.1; simp at this; omega) (hW.cellv (p := ⟨w.heap.size, 0, none⟩) hB (cell0 w _ t)) ((hv.next (bel1 w _)).nextF hW) hc hl hwf hr⟩)
  obtain ⟨g, lb, rfl, _, _⟩ := hv
  go_enter Try.func38, Try.ntmps38
  go_wp2
  go_ret
  exact ⟨_, rfl, H.out _, bel1 _ _⟩
theorem folded_any {B : Nat} (k : Nat) (w : World) (hB : B ≤ w.heap.size) :
    Calls Try.prog 50 #[.int .u8 (k : Int)] w fun e w' => ∃ u, e = .returned u ∧ ShS B w' u (shFold k) ∧ Below w.heap.size w w' := by
  have eg : ∀ args w, (callFunc 62 args).run Try.prog w = .ok (.enter 62 args) w := enters_of Try.func62 (by kernel_rfl) rfl
  have H : Hid (∀ t, ShS B (w.alloc (.cells #[.int .u8 (k : Int)] t)) (.func (.func 62) #[] #[.pointer (some ⟨w.heap.size, 0, none⟩)]) (shFold k)) :=
    dhid (fun t => ⟨_, _, rfl, eg, fun W hW ao cap L _ hc hl hwf hr => folded1_any w.heap.size k ao cap L W (by have := hW.1; simp at this; omega) (hW.cellv (p := ⟨w.heap.size, 0, none⟩) hB (cell0 w _ t)) hc hl hwf hr⟩)
  go_enter Try.func50, Try.ntmps50
  go_wp2
  go_ret
  exact ⟨_, rfl, H.out _, bel1 _ _⟩
theorem row_any {B : Nat} (po pc : Nat) (P : List Pt) (w : World) (hpo : po < w.heap.size) (hP : PsS B w po P) (hPl : P.length ≤ 6) (hB : B ≤ w.heap.size) (hBp : B ≤ po) :
    Calls Try.prog 48 #[.slice (some ⟨po, 0, none⟩) P.length pc] w fun e w' => ∃ u, e = .returned u ∧ ShS B w' u (shRow P) ∧ Below w.heap.size w w' := by
  have eg : ∀ args w, (callFunc 61 args).run Try.prog w = .ok (.enter 61 args) w := enters_of Try.func61 (by kernel_rfl) rfl
  have H : Hid (∀ t, ShS B (w.alloc (.cells #[.slice (some ⟨po, 0, none⟩) P.length pc] t)) (.func (.func 61) #[] #[.pointer (some ⟨w.heap.size, 0, none⟩)]) (shRow P)) :=
    dhid (fun t => ⟨_, _, rfl, eg, fun W hW ao cap L h0 hc hl hwf hr => row1_any w.heap.size po pc P ao cap L W (by have := hW.1; simp at this; omega) (hW.cellv (p := ⟨w.heap.size, 0, none⟩) hB (cell0 w _ t)) (by have := hW.1; simp at this; omega) ((hP.next hpo (bel1 w _)).nextF hBp hW) hPl h0 hc hl hwf hr⟩)
  go_enter Try.func48, Try.ntmps48
  go_wp2
  go_ret
  exact ⟨_, rfl, H.out _, bel1 _ _⟩
end Go.Proofs.Ytonmoidalkcmoaa
