import Derived.Test.YtihnkeflcnndpaaDoorPFa
import Derived.Test.YtihnkeflcnndpaaDoorPFm
namespace Go.Proofs.YtihnkeflcnndpaaDoor
open Go.RowKit Go.WideShapes Go.Shelf
set_option maxRecDepth 100000

set_option maxHeartbeats 1000000 in
theorem pproc_in {B pp p1 g1 p2 g2 n : Nat} {lv : Value} {Ps : List (Nat × Nat × Nat)} {A C : List Nat} (i : Nat) (w : World) (hi : i < Ps.length) (h : PrS w B pp p1 g1 p2 g2 n lv Ps A C) :
    Calls Tryd.prog 13 #[.pointer (some ⟨pp, 0, none⟩), .int .i64 i] w fun e w' => e = .returned (.tuple #[.agg #[.int .u32 ((Ps.getD i (0, 0, 0)).1 : Nat), .int .u32 ((Ps.getD i (0, 0, 0)).2.1 : Nat), .int .u32 ((Ps.getD i (0, 0, 0)).2.2 : Nat), .int .i64 0], .bool true]) ∧ Below w.heap.size w w' := by
  obtain ⟨ao, cap, rfl, hr⟩ := h.reads
  obtain ⟨b, off, rfl, hb, hc⟩ := hr (by omega)
  have HM := hidS (fun W hb => pcount_any pp Ps.length cap (some ⟨b, off, none⟩) W (h.below hb).c0 (h.below hb).c1)
  have HCL : Hid (∀ o, (w.alloc o).cell? ⟨pp, 1, none⟩ = some (.slice (some ⟨b, off, none⟩) Ps.length cap)) := hidS (fun o => (h.below (belP (Below.refl _ _))).c1)
  obtain ⟨v0, v1, v2, v3⟩ := hc i hi
  obtain ⟨pb, pe, pf, hq⟩ : ∃ pb pe pf, Ps.getD i (0, 0, 0) = (pb, pe, pf) := ⟨_, _, _, rfl⟩
  rw [hq] at v0 v1 v2 ⊢
  have HV : Hid (∀ o, (w.alloc o).cell? ⟨b, off + i * 4, none⟩ = some (.int .u32 (pb : Int)) ∧ (w.alloc o).cell? ⟨b, off + i * 4 + 1, none⟩ = some (.int .u32 (pe : Int)) ∧ (w.alloc o).cell? ⟨b, off + i * 4 + 2, none⟩ = some (.int .u32 (pf : Int)) ∧ (w.alloc o).cell? ⟨b, off + i * 4 + 3, none⟩ = some (.int .i64 0)) := hidS (fun o => by
    have hw : Below w.heap.size w (w.alloc o) := belP (Below.refl _ _)
    exact ⟨(hw.cell (p := ⟨b, off + i * 4, none⟩) hb).trans v0, (hw.cell (p := ⟨b, off + i * 4 + 1, none⟩) hb).trans v1, (hw.cell (p := ⟨b, off + i * 4 + 2, none⟩) hb).trans v2, (hw.cell (p := ⟨b, off + i * 4 + 3, none⟩) hb).trans v3⟩)
  have k0 := fun o => (HV.out o).1
  have k1 := fun o => (HV.out o).2.1
  have k2 := fun o => (HV.out o).2.2.1
  have k3 := fun o => (HV.out o).2.2.2
  have kl := HCL.out
  have h0I : ¬ (i : Int) < 0 := by omega
  have h1I : (i : Int) < (Ps.length : Int) := by omega
  have h2I : ¬ (Ps.length : Int) ≤ (i : Int) := by omega
  clear hr hc h v0 v1 v2 v3 hq
  go_enter Tryd.func13, Tryd.ntmps13
  go_wp2_with (go_at_call 12; refine (HM.out _ (belP (Below.refl _ _))).mono ?_; rintro e w2 ⟨rfl, hw2⟩; have hw2 := hw2.symm; subst hw2)
  exact bodyPost_ret (v := .tuple #[.agg #[.int .u32 (pb : Int), .int .u32 (pe : Int), .int .u32 (pf : Int), .int .i64 0], .bool true]) (by simp [results, Tryd.f13, go_sem]) rfl ⟨rfl, belP (Below.refl _ _)⟩
theorem pproc_out {B pp p1 g1 p2 g2 n : Nat} {lv : Value} {Ps : List (Nat × Nat × Nat)} {A C : List Nat} (i : Int) (w : World) (hi : i < 0 ∨ (Ps.length : Int) ≤ i) (h : PrS w B pp p1 g1 p2 g2 n lv Ps A C) :
    Calls Tryd.prog 13 #[.pointer (some ⟨pp, 0, none⟩), .int .i64 i] w fun e w' => e = .returned (.tuple #[.agg #[.int .u32 0, .int .u32 0, .int .u32 0, .int .i64 0], .bool false]) ∧ Below w.heap.size w w' := by
  obtain ⟨ao, cap, rfl, hr⟩ := h.reads
  have HM := hidS (fun W hb => pcount_any pp Ps.length cap ao W (h.below hb).c0 (h.below hb).c1)
  clear hr h
  by_cases h0 : i < 0
  · go_enter Tryd.func13, Tryd.ntmps13
    go_wp2_with (go_at_call 12; refine (HM.out _ (belP (Below.refl _ _))).mono ?_; rintro e w2 ⟨rfl, hw2⟩; have hw2 := hw2.symm; subst hw2)
    exact bodyPost_ret (v := .tuple #[.agg #[.int .u32 0, .int .u32 0, .int .u32 0, .int .i64 0], .bool false]) (by simp [results, Tryd.f13, go_sem]) rfl ⟨rfl, belP (Below.refl _ _)⟩
  · have h1 : (Ps.length : Int) ≤ i := by omega
    go_enter Tryd.func13, Tryd.ntmps13
    go_wp2_with (go_at_call 12; refine (HM.out _ (belP (Below.refl _ _))).mono ?_; rintro e w2 ⟨rfl, hw2⟩; have hw2 := hw2.symm; subst hw2)
    exact bodyPost_ret (v := .tuple #[.agg #[.int .u32 0, .int .u32 0, .int .u32 0, .int .i64 0], .bool false]) (by simp [results, Tryd.f13, go_sem]) rfl ⟨rfl, belP (Below.refl _ _)⟩
end Go.Proofs.YtihnkeflcnndpaaDoor
