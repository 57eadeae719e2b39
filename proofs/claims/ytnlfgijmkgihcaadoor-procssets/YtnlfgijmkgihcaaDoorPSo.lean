import Derived.Test.YtnlfgijmkgihcaaDoorPNl
import Derived.Test.YtnlfgijmkgihcaaDoorLOpen
import Derived.Deep.Slices
import Derived.Lib.SmallJoins
import Derived.ChangeMaps5
namespace Go.Proofs.YtnlfgijmkgihcaaDoor
open Go.ChangeShapes Go.WideShapes Go.ChangeAt Go.RowKit Go.Joins Go.Deep
set_option maxRecDepth 100000

theorem Tryd.cells3 : Tryd.prog.cellsOf 60 = 3 := by kernel_rfl
theorem elem3 {H : Type} {enc : TypeId × Value → H} {P : Program} {w : World} {base : Nat} {spare : Nat → Bool} {held : Bool} {e : TypeId} {f0 f1 f2 : Field} {n : Nat} {cs : List Value} {x : DataW H × List MemPlace} (he : P.underlying e = some (.struct #[f0, f1, f2])) (hone : oneCellFields P #[f0, f1, f2] = true) (hl : cs.length = 3) (h : DataW.trod enc P w base spare held n e cs = some x) :
    ∃ (v0 v1 v2 : Value) (y0 y1 y2 : DataW H × List MemPlace) (k : Nat), cs = [v0, v1, v2] ∧ DataW.trod enc P w base spare held k f0.type [v0] = some y0 ∧ DataW.trod enc P w base spare held k f1.type [v1] = some y1 ∧ DataW.trod enc P w base spare held k f2.type [v2] = some y2 := by
  obtain ⟨xs, k, _, rfl, _, hlen, hf⟩ := DataW.trod_struct he h
  match xs, hlen, cs, hl with
  | [y0, y1, y2], _, [v0, v1, v2], _ =>
    have h0 := hf 0 f0 rfl
    obtain ⟨o0, k0⟩ := hone_of hone 0 f0 rfl
    rw [o0, k0] at h0
    have h1 := hf 1 f1 rfl
    obtain ⟨o1, k1⟩ := hone_of hone 1 f1 rfl
    rw [o1, k1] at h1
    have h2 := hf 2 f2 rfl
    obtain ⟨o2, k2⟩ := hone_of hone 2 f2 rfl
    rw [o2, k2] at h2
    exact ⟨v0, v1, v2, y0, y1, y2, k, rfl, by simpa using h0, by simpa using h1, by simpa using h2⟩
/-- the cells of a step -/
def StAt (W : World) (b o : Nat) (s : Int × Int × Int) : Prop := W.cell? ⟨b, o, none⟩ = some (.int .i64 s.1) ∧ W.cell? ⟨b, o + 1, none⟩ = some (.int .i64 s.2.1) ∧ W.cell? ⟨b, o + 2, none⟩ = some (.int .i64 s.2.2)
theorem step_open {H : Type} {enc : TypeId × Value → H} {W : World} {n b off i : Nat} {cs : List Value} {x : DataW H × List MemPlace} (h1 : W.cells? 0 ((⟨b, off, none⟩ : Addr).add (i * 3)) 3 = some cs) (h : DataW.trod enc Tryd.prog W 0 (fun _ => true) true n 60 cs = some x) :
    ∃ s : Int × Int × Int, StAt W b (off + i * 3) s ∧ StOk s := by
  obtain ⟨_, hlen, hcell⟩ := World.cells?_some h1
  obtain ⟨v0, v1, v2, y0, y1, y2, k, rfl, t0, t1, t2⟩ := elem3 Tryd.underlying60 (by kernel_rfl) hlen h
  have hc : ∀ j, j < 3 → W.cell? ⟨b, off + i * 3 + j, none⟩ = [v0, v1, v2][j]? := fun j hj => by
    have := hcell j (by omega)
    rw [Go.Deep.add_add, Go.WideShapes.add_plain] at this
    rw [Nat.add_assoc, this]
  obtain ⟨z0, e0, _, w0⟩ := DataW.trod_int Tryd.underlying3 t0
  obtain ⟨z1, e1, _, w1⟩ := DataW.trod_int Tryd.underlying3 t1
  obtain ⟨z2, e2, _, w2⟩ := DataW.trod_int Tryd.underlying3 t2
  simp only [List.cons.injEq, and_true] at e0 e1 e2
  subst e0 e1 e2
  exact ⟨(z0, z1, z2), ⟨(hc 0 (by decide)).trans rfl, (hc 1 (by decide)).trans rfl, (hc 2 (by decide)).trans rfl⟩, int_wf w0, int_wf w1, int_wf w2⟩
theorem steps_open {H : Type} {enc : TypeId × Value → H} {W : World} {a0 : Option Addr} {len cap : Nat} {d : DataW H} {p : List MemPlace}
    (h : DataW.Trod enc Tryd.prog W 0 (fun _ => true) true 56 (.slice a0 len cap) d p) (hlt : ∀ x ∈ p, x.block < W.heap.size) :
    ∃ L : List (Int × Int × Int), L.length = len ∧ ScR W a0 L W.heap.size ∧ (∀ s ∈ L, StOk s) ∧ L.length ≤ maxLen := by
  obtain ⟨fuel, hf⟩ := h
  rcases Go.Deep.open_slice Tryd.underlying56 hf with ⟨hcs, hx⟩ | ⟨a, len', cap', m, n, D, Pl, hcs, _, hl, hm, hmm, hx, hel⟩
  · simp [Value.cells] at hcs
    obtain ⟨rfl, rfl, rfl⟩ := hcs
    exact ⟨[], rfl, fun hj => by simp at hj, fun s hs => by simp at hs, by simp⟩
  · simp only [Prod.mk.injEq] at hx
    obtain ⟨rfl, rfl⟩ := hx
    simp [Value.cells] at hcs
    obtain ⟨rfl, rfl, rfl⟩ := hcs
    simp only [if_true] at hmm
    subst hmm
    rw [Tryd.cells3] at hel hlt
    by_cases hz : len = 0
    · subst hz
      exact ⟨[], rfl, fun hj => by simp at hj, fun s hs => by simp at hs, by simp⟩
    obtain ⟨b, off, spot⟩ := a
    obtain ⟨cs0, g0, _⟩ := hel 0 (by omega)
    have hspot : spot = none := by
      obtain ⟨_, hl0, hc0⟩ := World.cells?_some g0
      have := hc0 0 (by omega)
      rw [List.getElem?_eq_getElem (by omega)] at this
      simpa [Addr.add] using World.cell?_spot this
    subst hspot
    have hbW : b < W.heap.size := hlt (.cell b off) (List.mem_append_left _ (MemPlace.mem_row.2 ⟨0, by omega, by simp⟩))
    have each : ∀ i, i < len → ∃ s : Int × Int × Int, StAt W b (off + i * 3) s ∧ StOk s := fun i hi => by
      obtain ⟨cs', g1, g2⟩ := hel i (by omega)
      exact step_open g1 g2
    obtain ⟨f, hfx⟩ : ∃ f : Nat → Int × Int × Int, ∀ i, i < len → StAt W b (off + i * 3) (f i) ∧ StOk (f i) :=
      ⟨fun i => if hi : i < len then (each i hi).choose else (0, 0, 0), fun i hi => by simp only [hi, dite_true]; exact (each i hi).choose_spec⟩
    refine ⟨(List.range len).map f, by simp, ?_, ?_, by simp; omega⟩
    · intro hj
      refine ⟨b, off, rfl, hbW, fun j hj' => ?_⟩
      have hj2 : j < len := by simpa using hj'
      have e : ((List.range len).map f).getD j (0, 0, 0) = f j := by simp [hj2]
      rw [e]
      exact (hfx j hj2).1
    · intro s hs
      obtain ⟨i, hi, rfl⟩ := List.mem_map.1 hs
      exact (hfx i (List.mem_range.1 hi)).2
end Go.Proofs.YtnlfgijmkgihcaaDoor
