import Derived.Test.YtahghghobibgdaaDoorCLBase
import Derived.Test.YtahghghobibgdaaDoorPFi
import Derived.Deep.SlicePairs
import Derived.Lib.SmallJoins
namespace Go.Proofs.YtahghghobibgdaaDoor
open Go.ChangeShapes Go.WideShapes Go.ChangeAt Go.RowKit Go.Joins
set_option maxRecDepth 100000

theorem Tryd.cellsI2 : Tryd.prog.cellsOf 39 = 2 := by kernel_rfl
theorem Tryd.cellsO1 : Tryd.prog.cellsOf 37 = 1 := by kernel_rfl
theorem Tryd.cellsD1 : Tryd.prog.cellsOf 36 = 1 := by kernel_rfl
theorem Tryd.cellsC2 : Tryd.prog.cellsOf 25 = 2 := by kernel_rfl
theorem codeC {H : Type} {enc : TypeId × Value → H} {W : World} {fuel : Nat} {c : Value} {y : DataW H × List MemPlace}
    (hf : DataW.trod enc Tryd.prog W 0 (fun _ => true) true fuel 22 [c] = some y) (hlt : ∀ x ∈ y.2, x.block < W.heap.size) :
    ∃ (ao : Option Addr) (L : List (Nat × Nat)) (cap : Nat), c = .slice ao L.length cap ∧ L.length ≤ 9223372036854775807 ∧ Wfc L ∧ CRd W ao L W.heap.size := by
  rcases Go.Deep.open_slice_pairs Tryd.underlying22 Tryd.underlying39 Tryd.cellsI2 rfl rfl Tryd.cellsO1 Tryd.cellsD1 hf with ⟨hcs, hx⟩ | ⟨a, len, cap, m, n, V0, V1, D0, D1, P0, P1, hcs, _, hl, hm, hz, hx, hcell⟩
  · simp only [List.cons.injEq, and_true] at hcs
    exact ⟨none, [], 0, hcs, by simp, fun p hp => by simp at hp, fun hp => by simp at hp⟩
  · simp only [List.cons.injEq, and_true] at hcs
    subst hcs hx
    simp only [if_true] at hz
    subst hz
    unfold maxLen at hm
    have each : ∀ i, i < len → ∃ q : Nat × Nat, V0 i = .int .u8 q.1 ∧ V1 i = .int .u32 q.2 ∧ q.1 < 256 ∧ q.2 < 4294967296 := by
      intro i hi
      obtain ⟨_, _, g0, g1⟩ := hcell i (by omega)
      obtain ⟨s, e0, _, w0⟩ := DataW.trod_int Tryd.underlying37 g0
      obtain ⟨u, e1, _, w1⟩ := DataW.trod_int Tryd.underlying36 g1
      simp at e0 e1
      have h0 := byte_wf w0
      have h1 := word_wf w1
      exact ⟨(s.toNat, u.toNat), by rw [e0]; simp only []; rw [Int.toNat_of_nonneg h0.1], by rw [e1]; simp only []; rw [Int.toNat_of_nonneg h1.1], by simp only []; omega, by simp only []; omega⟩
    obtain ⟨f, hfx⟩ : ∃ f : Nat → Nat × Nat, ∀ i, i < len → V0 i = .int .u8 (f i).1 ∧ V1 i = .int .u32 (f i).2 ∧ (f i).1 < 256 ∧ (f i).2 < 4294967296 :=
      ⟨fun i => if hi : i < len then (each i hi).choose else (0, 0), fun i hi => by simp only [hi, dite_true]; exact (each i hi).choose_spec⟩
    have hgd : ∀ j, j < len → ((List.range len).map f).getD j (0, 0) = f j := fun j hj => by simp [hj]
    refine ⟨some a, (List.range len).map f, m, by simp, by simp; omega, ?_, ?_⟩
    · intro p hp
      obtain ⟨i, hi, rfl⟩ := List.mem_map.1 hp
      exact (hfx i (List.mem_range.1 hi)).2.2
    · intro hpos
      simp at hpos
      obtain ⟨b, off, spot⟩ := a
      have hspot : spot = none := by simpa [Addr.add] using World.cell?_spot (hcell 0 (by omega)).1
      subst hspot
      have hbW : b < W.heap.size := hlt (.cell b off) (List.mem_append_left _ (MemPlace.mem_row.2 ⟨0, by omega, by simp⟩))
      refine ⟨b, off, rfl, hbW, fun j hj => ?_⟩
      simp at hj
      obtain ⟨c0, c1, _, _⟩ := hcell j (by omega)
      obtain ⟨e0, e1, _, _⟩ := hfx j hj
      rw [add_plain] at c0 c1
      rw [hgd j hj]
      exact ⟨by rw [c0, e0], by rw [Nat.add_assoc, c1, e1]⟩
theorem jumpsC {H : Type} {enc : TypeId × Value → H} {W : World} {fuel : Nat} {c : Value} {y : DataW H × List MemPlace}
    (hf : DataW.trod enc Tryd.prog W 0 (fun _ => true) true fuel 23 [c] = some y) (hlt : ∀ x ∈ y.2, x.block < W.heap.size) :
    ∃ (ao : Option Addr) (J : List Nat) (cap : Nat), c = .slice ao J.length cap ∧ J.length ≤ 9223372036854775807 ∧ (∀ z ∈ J, z < 4294967296) ∧ JRd W ao J W.heap.size := by
  rcases open_ints Tryd.underlying23 Tryd.underlying36 Tryd.cellsD1 hf with ⟨hcs, hx⟩ | ⟨a, len, cap, zs, hcs, _, hl, hm, hz, hx, hcell, hwz⟩
  · simp only [List.cons.injEq, and_true] at hcs
    exact ⟨none, [], 0, hcs, by simp, fun p hp => by simp at hp, fun hp => by simp at hp⟩
  · simp only [List.cons.injEq, and_true] at hcs
    subst hcs hx
    simp only [if_true] at hz
    unfold maxLen at hm
    have hlz : ((zs.take len).map Int.toNat).length = len := by simp; omega
    refine ⟨some a, (zs.take len).map Int.toNat, cap, by rw [hlz], by rw [hlz]; omega, fun z hz' => ?_, fun hpos => ?_⟩
    · obtain ⟨u, hu, rfl⟩ := List.mem_map.1 hz'
      have := word_wf (hwz u (List.mem_of_mem_take hu))
      omega
    · obtain ⟨b, off, spot⟩ := a
      rw [hlz] at hpos
      have hspot : spot = none := by simpa [Addr.add] using World.cell?_spot (hcell 0 (by omega))
      subst hspot
      have hbW : b < W.heap.size := hlt (.cell b off) (MemPlace.mem_row.2 ⟨0, by omega, by simp⟩)
      refine ⟨b, off, rfl, hbW, fun j hj => ?_⟩
      rw [hlz] at hj
      have hjz : j < zs.length := by omega
      have hw := word_wf (hwz zs[j] (List.getElem_mem hjz))
      rw [← add_plain, hcell j (by omega)]
      simp [hj, hjz]
      omega
/-- code with its jumps, handed in -/
theorem code2_open {H : Type} {enc : TypeId × Value → H} {W : World} {r : Reach} {b0 : Nat} {v : Value} {d : DataW H} {p : List MemPlace}
    (hv : Value.okWide Tryd.prog W r b0 25 v) (h : DataW.Trod enc Tryd.prog W 0 (fun _ => true) true 25 v d p) (hlt : ∀ x ∈ p, x.block < W.heap.size) :
    ∃ (ao aj : Option Addr) (cap capj : Nat) (L : List (Nat × Nat)) (J : List Nat), v = .agg #[.slice ao L.length cap, .slice aj J.length capj] ∧ L.length ≤ 9223372036854775807 ∧ J.length ≤ 9223372036854775807 ∧ Wfc L ∧ (∀ z ∈ J, z < 4294967296) ∧ CRd W ao L W.heap.size ∧ JRd W aj J W.heap.size := by
  obtain ⟨c0, c1, y0, y1, k, rfl, _, hp, t0, t1⟩ := open_agg2 Tryd.underlying25 (by kernel_rfl) Tryd.cellsC2 hv h
  obtain ⟨ao, L, cap, rfl, q1, q2, q3⟩ := codeC t0 (fun x hx => hlt x (by rw [hp]; simp [hx]))
  obtain ⟨aj, J, capj, rfl, r1, r2, r3⟩ := jumpsC t1 (fun x hx => hlt x (by rw [hp]; simp [hx]))
  exact ⟨ao, aj, cap, capj, L, J, rfl, q1, r1, q2, r2, q3, r3⟩
end Go.Proofs.YtahghghobibgdaaDoor
