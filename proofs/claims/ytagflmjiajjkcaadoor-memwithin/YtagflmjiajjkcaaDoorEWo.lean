import Derived.Test.YtagflmjiajjkcaaDoorEWL
import Derived.Test.YtagflmjiajjkcaaDoorLOpen
import Derived.Deep.Slices
import Derived.Lib.SmallJoins
import Derived.ChangeMaps5
namespace Go.Proofs.YtagflmjiajjkcaaDoor
open Go.ChangeShapes Go.WideShapes Go.ChangeAt Go.RowKit Go.Joins Go.Deep
set_option maxRecDepth 100000

theorem Tryd.cells8 : Tryd.prog.cellsOf 54 = 8 := by kernel_rfl
theorem elem8 {H : Type} {enc : TypeId × Value → H} {P : Program} {w : World} {base : Nat} {spare : Nat → Bool} {held : Bool} {e : TypeId} {f0 f1 f2 f3 f4 f5 f6 f7 : Field} {n : Nat} {cs : List Value} {x : DataW H × List MemPlace} (he : P.underlying e = some (.struct #[f0, f1, f2, f3, f4, f5, f6, f7])) (hone : oneCellFields P #[f0, f1, f2, f3, f4, f5, f6, f7] = true) (hl : cs.length = 8) (h : DataW.trod enc P w base spare held n e cs = some x) :
    ∃ (v0 v1 v2 v3 v4 v5 v6 v7 : Value) (y0 y1 y2 y3 y4 y5 y6 y7 : DataW H × List MemPlace) (k : Nat), cs = [v0, v1, v2, v3, v4, v5, v6, v7] ∧ (∀ z ∈ y7.2, z ∈ x.2) ∧ DataW.trod enc P w base spare held k f0.type [v0] = some y0 ∧ DataW.trod enc P w base spare held k f1.type [v1] = some y1 ∧ DataW.trod enc P w base spare held k f2.type [v2] = some y2 ∧ DataW.trod enc P w base spare held k f3.type [v3] = some y3 ∧ DataW.trod enc P w base spare held k f4.type [v4] = some y4 ∧ DataW.trod enc P w base spare held k f5.type [v5] = some y5 ∧ DataW.trod enc P w base spare held k f6.type [v6] = some y6 ∧ DataW.trod enc P w base spare held k f7.type [v7] = some y7 := by
  obtain ⟨xs, k, _, rfl, _, hlen, hf⟩ := DataW.trod_struct he h
  match xs, hlen, cs, hl with
  | [y0, y1, y2, y3, y4, y5, y6, y7], _, [v0, v1, v2, v3, v4, v5, v6, v7], _ =>
    have h0 := hf 0 f0 rfl
    obtain ⟨o0, k0⟩ := hone_of hone 0 f0 rfl
    rw [o0, k0] at h0
    have h1 := hf 1 f1 rfl
    obtain ⟨o1, k1⟩ := hone_of hone 1 f1 rfl
    rw [o1, k1] at h1
    have h2 := hf 2 f2 rfl
    obtain ⟨o2, k2⟩ := hone_of hone 2 f2 rfl
    rw [o2, k2] at h2
    have h3 := hf 3 f3 rfl
    obtain ⟨o3, k3⟩ := hone_of hone 3 f3 rfl
    rw [o3, k3] at h3
    have h4 := hf 4 f4 rfl
    obtain ⟨o4, k4⟩ := hone_of hone 4 f4 rfl
    rw [o4, k4] at h4
    have h5 := hf 5 f5 rfl
    obtain ⟨o5, k5⟩ := hone_of hone 5 f5 rfl
    rw [o5, k5] at h5
    have h6 := hf 6 f6 rfl
    obtain ⟨o6, k6⟩ := hone_of hone 6 f6 rfl
    rw [o6, k6] at h6
    have h7 := hf 7 f7 rfl
    obtain ⟨o7, k7⟩ := hone_of hone 7 f7 rfl
    rw [o7, k7] at h7
    exact ⟨v0, v1, v2, v3, v4, v5, v6, v7, y0, y1, y2, y3, y4, y5, y6, y7, k, rfl, fun z hz => by simp [hz], by simpa using h0, by simpa using h1, by simpa using h2, by simpa using h3, by simpa using h4, by simpa using h5, by simpa using h6, by simpa using h7⟩
theorem nat_of' {z : Int} {m : Int} (h : 0 ≤ z ∧ z ≤ m) : ∃ n : Nat, z = n ∧ (n : Int) ≤ m := by
  obtain ⟨n, rfl⟩ := Int.eq_ofNat_of_zero_le h.1
  exact ⟨n, rfl, h.2⟩
theorem step_open {H : Type} {enc : TypeId × Value → H} {W : World} {n b off i : Nat} {cs : List Value} {x : DataW H × List MemPlace} (h1 : W.cells? 0 ((⟨b, off, none⟩ : Addr).add (i * 8)) 8 = some cs) (h : DataW.trod enc Tryd.prog W 0 (fun _ => true) true n 54 cs = some x) (hlt : ∀ z ∈ x.2, z.block < W.heap.size) :
    ∃ s : Stp, StpAt W b (off + i * 8) s ∧ StpOk s ∧ Reads W s.da s.dz W.heap.size := by
  obtain ⟨_, hlen, hcell⟩ := World.cells?_some h1
  obtain ⟨v0, v1, v2, v3, v4, v5, v6, v7, y0, y1, y2, y3, y4, y5, y6, y7, k, rfl, hp, t0, t1, t2, t3, t4, t5, t6, t7⟩ := elem8 Tryd.underlying54 (by kernel_rfl) hlen h
  have hc : ∀ j, j < 8 → W.cell? ⟨b, off + i * 8 + j, none⟩ = [v0, v1, v2, v3, v4, v5, v6, v7][j]? := fun j hj => by
    have := hcell j (by omega)
    rw [Go.Deep.add_add, Go.WideShapes.add_plain] at this
    rw [Nat.add_assoc, this]
  obtain ⟨z0, e0, _, w0⟩ := DataW.trod_int Tryd.underlying5 t0
  obtain ⟨z1, e1, _, w1⟩ := DataW.trod_int Tryd.underlying5 t1
  obtain ⟨z2, e2, _, w2⟩ := DataW.trod_int Tryd.underlying5 t2
  obtain ⟨z3, e3, _, w3⟩ := DataW.trod_int Tryd.underlying27 t3
  obtain ⟨z4, e4, _, w4⟩ := DataW.trod_int Tryd.underlying27 t4
  obtain ⟨z5, e5, _, w5⟩ := DataW.trod_int Tryd.underlying3 t5
  obtain ⟨z6, e6, _⟩ := DataW.trod_bool Tryd.underlying4 t6
  obtain ⟨ao, cap, zs, e7, hcp, hwf, hr, _⟩ := bytes_cells (d := y7.1) (p := y7.2) t7 (fun z hz => hlt z (hp z hz))
  simp only [List.cons.injEq, and_true] at e0 e1 e2 e3 e4 e5 e6 e7
  subst e0 e1 e2 e3 e4 e5 e6 e7
  obtain ⟨n0, rfl, b0⟩ := nat_of' (byte_wf w0)
  obtain ⟨n1, rfl, b1⟩ := nat_of' (byte_wf w1)
  obtain ⟨n2, rfl, b2⟩ := nat_of' (byte_wf w2)
  obtain ⟨n3, rfl, b3⟩ := nat_of' (word_wf w3)
  obtain ⟨n4, rfl, b4⟩ := nat_of' (word_wf w4)
  have b5 := int_wf w5
  exact ⟨⟨n0, n1, n2, n3, n4, z5, z6, ao, cap, zs⟩, ⟨(hc 0 (by decide)).trans rfl, (hc 1 (by decide)).trans rfl, (hc 2 (by decide)).trans rfl, (hc 3 (by decide)).trans rfl, (hc 4 (by decide)).trans rfl, (hc 5 (by decide)).trans rfl, (hc 6 (by decide)).trans rfl, (hc 7 (by decide)).trans rfl⟩, ⟨by simp only; omega, by simp only; omega, by simp only; omega, b5.1, b5.2, hcp, hwf⟩, hr⟩
theorem steps_open {H : Type} {enc : TypeId × Value → H} {W : World} {a0 : Option Addr} {len cap : Nat} {d : DataW H} {p : List MemPlace}
    (h : DataW.Trod enc Tryd.prog W 0 (fun _ => true) true 52 (.slice a0 len cap) d p) (hlt : ∀ x ∈ p, x.block < W.heap.size) :
    ∃ L : List Stp, L.length = len ∧ StpsR W a0 L W.heap.size ∧ (∀ s ∈ L, StpOk s) ∧ L.length ≤ maxLen := by
  obtain ⟨fuel, hf⟩ := h
  rcases Go.Deep.open_slice Tryd.underlying52 hf with ⟨hcs, hx⟩ | ⟨a, len', cap', m, n, D, Pl, hcs, _, hl, hm, hmm, hx, hel⟩
  · simp [Value.cells] at hcs
    obtain ⟨rfl, rfl, rfl⟩ := hcs
    exact ⟨[], rfl, fun j hj => by simp at hj, fun s hs => by simp at hs, by simp⟩
  · simp only [Prod.mk.injEq] at hx
    obtain ⟨rfl, rfl⟩ := hx
    simp [Value.cells] at hcs
    obtain ⟨rfl, rfl, rfl⟩ := hcs
    simp only [if_true] at hmm
    subst hmm
    rw [Tryd.cells8] at hel hlt
    by_cases hz : len = 0
    · subst hz
      exact ⟨[], rfl, fun j hj => by simp at hj, fun s hs => by simp at hs, by simp⟩
    obtain ⟨b, off, spot⟩ := a
    obtain ⟨cs0, g0, _⟩ := hel 0 (by omega)
    have hspot : spot = none := by
      obtain ⟨_, hl0, hc0⟩ := World.cells?_some g0
      have := hc0 0 (by omega)
      rw [List.getElem?_eq_getElem (by omega)] at this
      simpa [Addr.add] using World.cell?_spot this
    subst hspot
    have hbW : b < W.heap.size := hlt (.cell b off) (List.mem_append_left _ (MemPlace.mem_row.2 ⟨0, by omega, by simp⟩))
    have each : ∀ i, i < len → ∃ s : Stp, StpAt W b (off + i * 8) s ∧ StpOk s ∧ Reads W s.da s.dz W.heap.size := fun i hi => by
      obtain ⟨cs', g1, g2⟩ := hel i (by omega)
      exact step_open g1 g2 (fun z hz => hlt z (List.mem_append_right _ (List.mem_flatMap.2 ⟨i, List.mem_range.2 (by omega), hz⟩)))
    obtain ⟨f, hfx⟩ : ∃ f : Nat → Stp, ∀ i, i < len → StpAt W b (off + i * 8) (f i) ∧ StpOk (f i) ∧ Reads W (f i).da (f i).dz W.heap.size :=
      ⟨fun i => if hi : i < len then (each i hi).choose else ⟨0, 0, 0, 0, 0, 0, false, none, 0, []⟩, fun i hi => by simp only [hi, dite_true]; exact (each i hi).choose_spec⟩
    refine ⟨(List.range len).map f, by simp, ?_, ?_, by simp; omega⟩
    · intro j hj
      have hj' : j < len := by simpa using hj
      have e : ((List.range len).map f)[j] = f j := by simp
      rw [e]
      exact ⟨b, off, rfl, hbW, (hfx j hj').1, (hfx j hj').2.2⟩
    · intro s hs
      obtain ⟨i, hi, rfl⟩ := List.mem_map.1 hs
      exact (hfx i (List.mem_range.1 hi)).2.1
end Go.Proofs.YtagflmjiajjkcaaDoor
