import Derived.Test.YtgbpfejodpplbaaGreatDoorCLBase
import Derived.Test.YtgbpfejodpplbaaGreatDoorCPFi
import Derived.Deep.SlicePairs
import Derived.Lib.SmallJoins
import Derived.ChangeMaps5
import Derived.Test.YtgbpfejodpplbaaGreatDoorCVTk
import Derived.SizedLaws
namespace Go.Proofs.YtgbpfejodpplbaaGreatDoor
open Go.ChangeShapes Go.WideShapes Go.ChangeAt Go.RowKit Go.Joins
set_option maxRecDepth 100000

theorem Tryz.cellsI2 : Tryz.prog.cellsOf 43 = 2 := by kernel_rfl
theorem Tryz.cellsO1 : Tryz.prog.cellsOf 41 = 1 := by kernel_rfl
theorem Tryz.cellsD1 : Tryz.prog.cellsOf 25 = 1 := by kernel_rfl
theorem codeC {H : Type} {enc : TypeId × Value → H} {W : World} {fuel : Nat} {c : Value} {y : DataW H × List MemPlace}
    (hf : DataW.trod enc Tryz.prog W 0 (fun _ => true) true fuel 22 [c] = some y) (hlt : ∀ x ∈ y.2, x.block < W.heap.size) :
    ∃ (ao : Option Addr) (L : List (Nat × Nat)) (cap : Nat), c = .slice ao L.length cap ∧ L.length ≤ 9223372036854775807 ∧ Wfc L ∧ CRd W ao L W.heap.size := by
  rcases Go.Deep.open_slice_pairs Tryz.underlying22 Tryz.underlying43 Tryz.cellsI2 rfl rfl Tryz.cellsO1 Tryz.cellsD1 hf with ⟨hcs, hx⟩ | ⟨a, len, cap, m, n, V0, V1, D0, D1, P0, P1, hcs, _, hl, hm, hz, hx, hcell⟩
  · simp only [List.cons.injEq, and_true] at hcs
    exact ⟨none, [], 0, hcs, by simp, fun p hp => by simp at hp, fun hp => by simp at hp⟩
  · simp only [List.cons.injEq, and_true] at hcs
    subst hcs hx
    simp only [if_true] at hz
    subst hz
    unfold maxLen at hm
    have each : ∀ i, i < len → ∃ q : Nat × Nat, V0 i = .int .u8 q.1 ∧ V1 i = .int .u32 q.2 ∧ q.1 < 256 ∧ q.2 < 4294967296 := by
      intro i hi
      obtain ⟨_, _, g0, g1⟩ := hcell i (by omega)
      obtain ⟨s, e0, _, w0⟩ := DataW.trod_int Tryz.underlying41 g0
      obtain ⟨u, e1, _, w1⟩ := DataW.trod_int Tryz.underlying25 g1
      simp at e0 e1
      have h0 := byte_wf w0
      have h1 := word_wf w1
      exact ⟨(s.toNat, u.toNat), by rw [e0]; simp only []; rw [Int.toNat_of_nonneg h0.1], by rw [e1]; simp only []; rw [Int.toNat_of_nonneg h1.1], by simp only []; omega, by simp only []; omega⟩
    obtain ⟨f, hfx⟩ : ∃ f : Nat → Nat × Nat, ∀ i, i < len → V0 i = .int .u8 (f i).1 ∧ V1 i = .int .u32 (f i).2 ∧ (f i).1 < 256 ∧ (f i).2 < 4294967296 :=
      ⟨fun i => if hi : i < len then (each i hi).choose else (0, 0), fun i hi => by simp only [hi, dite_true]; exact (each i hi).choose_spec⟩
    have hgd : ∀ j, j < len → ((List.range len).map f).getD j (0, 0) = f j := fun j hj => by simp [hj]
    refine ⟨some a, (List.range len).map f, m, by simp, by simp; omega, ?_, ?_⟩
    · intro p hp
      obtain ⟨i, hi, rfl⟩ := List.mem_map.1 hp
      exact (hfx i (List.mem_range.1 hi)).2.2
    · intro hpos
      simp at hpos
      obtain ⟨b, off, spot⟩ := a
      have hspot : spot = none := by simpa [Addr.add] using World.cell?_spot (hcell 0 (by omega)).1
      subst hspot
      have hbW : b < W.heap.size := hlt (.cell b off) (List.mem_append_left _ (MemPlace.mem_row.2 ⟨0, by omega, by simp⟩))
      refine ⟨b, off, rfl, hbW, fun j hj => ?_⟩
      simp at hj
      obtain ⟨c0, c1, _, _⟩ := hcell j (by omega)
      obtain ⟨e0, e1, _, _⟩ := hfx j hj
      rw [add_plain] at c0 c1
      rw [hgd j hj]
      exact ⟨by rw [c0, e0], by rw [Nat.add_assoc, c1, e1]⟩
theorem jumpsC {H : Type} {enc : TypeId × Value → H} {W : World} {fuel : Nat} {c : Value} {y : DataW H × List MemPlace}
    (hf : DataW.trod enc Tryz.prog W 0 (fun _ => true) true fuel 23 [c] = some y) (hlt : ∀ x ∈ y.2, x.block < W.heap.size) :
    ∃ (ao : Option Addr) (J : List Nat) (cap : Nat), c = .slice ao J.length cap ∧ J.length ≤ 9223372036854775807 ∧ (∀ z ∈ J, z < 4294967296) ∧ JRd W ao J W.heap.size := by
  rcases open_ints Tryz.underlying23 Tryz.underlying25 Tryz.cellsD1 hf with ⟨hcs, hx⟩ | ⟨a, len, cap, zs, hcs, _, hl, hm, hz, hx, hcell, hwz⟩
  · simp only [List.cons.injEq, and_true] at hcs
    exact ⟨none, [], 0, hcs, by simp, fun p hp => by simp at hp, fun hp => by simp at hp⟩
  · simp only [List.cons.injEq, and_true] at hcs
    subst hcs hx
    simp only [if_true] at hz
    unfold maxLen at hm
    have hlz : ((zs.take len).map Int.toNat).length = len := by simp; omega
    refine ⟨some a, (zs.take len).map Int.toNat, cap, by rw [hlz], by rw [hlz]; omega, fun z hz' => ?_, fun hpos => ?_⟩
    · obtain ⟨u, hu, rfl⟩ := List.mem_map.1 hz'
      have := word_wf (hwz u (List.mem_of_mem_take hu))
      omega
    · obtain ⟨b, off, spot⟩ := a
      rw [hlz] at hpos
      have hspot : spot = none := by simpa [Addr.add] using World.cell?_spot (hcell 0 (by omega))
      subst hspot
      have hbW : b < W.heap.size := hlt (.cell b off) (MemPlace.mem_row.2 ⟨0, by omega, by simp⟩)
      refine ⟨b, off, rfl, hbW, fun j hj => ?_⟩
      rw [hlz] at hj
      have hjz : j < zs.length := by omega
      have hw := word_wf (hwz zs[j] (List.getElem_mem hjz))
      rw [← add_plain, hcell j (by omega)]
      simp [hj, hjz]
      omega
end Go.Proofs.YtgbpfejodpplbaaGreatDoor
namespace Go.Proofs.YtgbpfejodpplbaaGreatDoor
open Go.ChangeShapes Go.WideShapes Go.ChangeAt Go.RowKit Go.Joins Go.Deep
set_option maxRecDepth 100000

theorem array6 {α : Type} {cs : Array α} (h : cs.size = 6) : ∃ c0 c1 c2 c3 c4 c5, cs = #[c0, c1, c2, c3, c4, c5] := by
  obtain ⟨l⟩ := cs
  match l, h with
  | [c0, c1, c2, c3, c4, c5], _ => exact ⟨c0, c1, c2, c3, c4, c5, rfl⟩
theorem trod_struct6 {H : Type} {enc : TypeId × Value → H} {P : Program} {w : World} {base : Nat} {spare : Nat → Bool} {held : Bool} {t : TypeId} {f0 f1 f2 f3 f4 f5 : Field} {fuel : Nat} {cs : List Value} {x : DataW H × List MemPlace} (ht : P.underlying t = some (.struct #[f0, f1, f2, f3, f4, f5])) (h : DataW.trod enc P w base spare held fuel t cs = some x) :
    ∃ y0 y1 y2 y3 y4 y5 n, x = (.agg [y0.1, y1.1, y2.1, y3.1, y4.1, y5.1], y0.2 ++ (y1.2 ++ (y2.2 ++ (y3.2 ++ (y4.2 ++ y5.2))))) ∧ DataW.trod enc P w base spare held n f0.type ((cs.drop f0.offset).take (P.cellsOf f0.type)) = some y0 ∧
      DataW.trod enc P w base spare held n f1.type ((cs.drop f1.offset).take (P.cellsOf f1.type)) = some y1 ∧ DataW.trod enc P w base spare held n f2.type ((cs.drop f2.offset).take (P.cellsOf f2.type)) = some y2 ∧
      DataW.trod enc P w base spare held n f3.type ((cs.drop f3.offset).take (P.cellsOf f3.type)) = some y3 ∧ DataW.trod enc P w base spare held n f4.type ((cs.drop f4.offset).take (P.cellsOf f4.type)) = some y4 ∧ DataW.trod enc P w base spare held n f5.type ((cs.drop f5.offset).take (P.cellsOf f5.type)) = some y5 := by
  obtain ⟨xs, n, _, rfl, hl, hlen, hf⟩ := DataW.trod_struct ht h
  match xs, hlen with
  | [y0, y1, y2, y3, y4, y5], _ => exact ⟨y0, y1, y2, y3, y4, y5, n, by simp, by simpa using hf 0 f0 rfl, by simpa using hf 1 f1 rfl, by simpa using hf 2 f2 rfl, by simpa using hf 3 f3 rfl, by simpa using hf 4 f4 rfl, by simpa using hf 5 f5 rfl⟩
theorem open_agg6 {H : Type} {enc : TypeId × Value → H} {P : Program} {w : World} {base : Nat} {spare : Nat → Bool} {held : Bool} {r : Reach} {b0 : Nat} {t : TypeId} {f0 f1 f2 f3 f4 f5 : Field} {v : Value} {d : DataW H} {p : List MemPlace} (hs : P.underlying t = some (.struct #[f0, f1, f2, f3, f4, f5])) (hone : oneCellFields P #[f0, f1, f2, f3, f4, f5] = true) (hC : P.cellsOf t = 6)
    (hv : Value.okWide P w r b0 t v) (h : DataW.Trod enc P w base spare held t v d p) :
    ∃ (v0 v1 v2 v3 v4 v5 : Value) (y0 y1 y2 y3 y4 y5 : DataW H × List MemPlace) (n : Nat), v = .agg #[v0, v1, v2, v3, v4, v5] ∧ p = y0.2 ++ (y1.2 ++ (y2.2 ++ (y3.2 ++ (y4.2 ++ y5.2)))) ∧
      DataW.trod enc P w base spare held n f0.type [v0] = some y0 ∧ DataW.trod enc P w base spare held n f1.type [v1] = some y1 ∧ DataW.trod enc P w base spare held n f2.type [v2] = some y2 ∧ DataW.trod enc P w base spare held n f3.type [v3] = some y3 ∧ DataW.trod enc P w base spare held n f4.type [v4] = some y4 ∧ DataW.trod enc P w base spare held n f5.type [v5] = some y5 := by
  obtain ⟨cs, rfl, hsz⟩ := okWide_struct hs hv
  obtain ⟨c0, c1, c2, c3, c4, c5, rfl⟩ := array6 (hsz.trans hC)
  obtain ⟨fuel, hf⟩ := h
  obtain ⟨y0, y1, y2, y3, y4, y5, n, hx, h0, h1, h2, h3, h4, h5⟩ := trod_struct6 hs hf
  obtain ⟨o0, k0⟩ := hone_of hone 0 f0 rfl
  obtain ⟨o1, k1⟩ := hone_of hone 1 f1 rfl
  obtain ⟨o2, k2⟩ := hone_of hone 2 f2 rfl
  obtain ⟨o3, k3⟩ := hone_of hone 3 f3 rfl
  obtain ⟨o4, k4⟩ := hone_of hone 4 f4 rfl
  obtain ⟨o5, k5⟩ := hone_of hone 5 f5 rfl
  simp only [Prod.mk.injEq] at hx
  exact ⟨c0, c1, c2, c3, c4, c5, y0, y1, y2, y3, y4, y5, n, rfl, hx.2, by simpa [Value.cells, o0, k0] using h0, by simpa [Value.cells, o1, k1] using h1, by simpa [Value.cells, o2, k2] using h2, by simpa [Value.cells, o3, k3] using h3, by simpa [Value.cells, o4, k4] using h4, by simpa [Value.cells, o5, k5] using h5⟩
theorem nat_of {z : Int} {m : Int} (h : 0 ≤ z ∧ z ≤ m) : ∃ n : Nat, z = n ∧ (n : Int) ≤ m := by
  obtain ⟨n, rfl⟩ := Int.eq_ofNat_of_zero_le h.1
  exact ⟨n, rfl, h.2⟩
theorem half_wf {z : Int} (h : (Lit.int .u16 z).wf = true) : 0 ≤ z ∧ z ≤ 65535 := by
  simpa [Lit.wf, IntKind.min, IntKind.max, IntKind.signed, IntKind.bits] using h
end Go.Proofs.YtgbpfejodpplbaaGreatDoor
namespace Go.Proofs.YtgbpfejodpplbaaGreatDoor
open Go.ChangeShapes Go.WideShapes Go.ChangeAt Go.RowKit Go.Joins Go.Deep
set_option maxRecDepth 100000
theorem Tryz.cellsE2 : Tryz.prog.cellsOf 64 = 2 := by kernel_rfl
theorem Tryz.cellsS1 : Tryz.prog.cellsOf 9 = 1 := by kernel_rfl
theorem Tryz.cellsM6 : Tryz.prog.cellsOf 28 = 6 := by kernel_rfl
theorem namesC {H : Type} {enc : TypeId × Value → H} {W : World} {fuel : Nat} {c : Value} {y : DataW H × List MemPlace}
    (hf : DataW.trod enc Tryz.prog W 0 (fun _ => true) true fuel 26 [c] = some y) (hlt : ∀ x ∈ y.2, x.block < W.heap.size) :
    ∃ (ao : Option Addr) (L : List (ByteArray × Nat)) (cap : Nat), c = .slice ao L.length cap ∧ L.length ≤ 9223372036854775807 ∧ (∀ p ∈ L, p.2 < 4294967296) ∧ NRd W ao L W.heap.size := by
  rcases Go.Deep.open_slice_pairs Tryz.underlying26 Tryz.underlying64 Tryz.cellsE2 rfl rfl Tryz.cellsS1 Tryz.cellsD1 hf with ⟨hcs, hx⟩ | ⟨a, len, cap, m, n, V0, V1, D0, D1, P0, P1, hcs, _, hl, hm, hz, hx, hcell⟩
  · simp only [List.cons.injEq, and_true] at hcs
    exact ⟨none, [], 0, hcs, by simp, fun p hp => by simp at hp, fun hp => by simp at hp⟩
  · simp only [List.cons.injEq, and_true] at hcs
    subst hcs hx
    simp only [if_true] at hz
    subst hz
    unfold maxLen at hm
    have each : ∀ i, i < len → ∃ q : ByteArray × Nat, V0 i = .string q.1 ∧ V1 i = .int .u32 q.2 ∧ q.2 < 4294967296 := by
      intro i hi
      obtain ⟨_, _, g0, g1⟩ := hcell i (by omega)
      obtain ⟨s, e0, _, _⟩ := DataW.trod_string Tryz.underlying9 g0
      obtain ⟨u, e1, _, w1⟩ := DataW.trod_int Tryz.underlying25 g1
      simp at e0 e1
      have h1 := word_wf w1
      exact ⟨(s, u.toNat), e0, by rw [e1]; simp only []; rw [Int.toNat_of_nonneg h1.1], by simp only []; omega⟩
    obtain ⟨f, hfx⟩ : ∃ f : Nat → ByteArray × Nat, ∀ i, i < len → V0 i = .string (f i).1 ∧ V1 i = .int .u32 (f i).2 ∧ (f i).2 < 4294967296 :=
      ⟨fun i => if hi : i < len then (each i hi).choose else (.empty, 0), fun i hi => by simp only [hi, dite_true]; exact (each i hi).choose_spec⟩
    have hgd : ∀ j, j < len → ((List.range len).map f).getD j (.empty, 0) = f j := fun j hj => by simp [hj]
    refine ⟨some a, (List.range len).map f, m, by simp, by simp; omega, ?_, ?_⟩
    · intro p hp
      obtain ⟨i, hi, rfl⟩ := List.mem_map.1 hp
      exact (hfx i (List.mem_range.1 hi)).2.2
    · intro hpos
      simp at hpos
      obtain ⟨b, off, spot⟩ := a
      have hspot : spot = none := by simpa [Addr.add] using World.cell?_spot (hcell 0 (by omega)).1
      subst hspot
      have hbW : b < W.heap.size := hlt (.cell b off) (List.mem_append_left _ (MemPlace.mem_row.2 ⟨0, by omega, by simp⟩))
      refine ⟨b, off, rfl, hbW, fun j hj => ?_⟩
      simp at hj
      obtain ⟨c0, c1, _, _⟩ := hcell j (by omega)
      obtain ⟨e0, e1, _⟩ := hfx j hj
      rw [add_plain] at c0 c1
      rw [hgd j hj]
      exact ⟨by rw [c0, e0], by rw [Nat.add_assoc, c1, e1]⟩
theorem slice_shape {H : Type} {enc : TypeId × Value → H} {W : World} {fuel : Nat} {t e : TypeId} {ao : Option Addr} {len cap : Nat} {y : DataW H × List MemPlace} (ht : Tryz.prog.underlying t = some (.slice e))
    (h : DataW.trod enc Tryz.prog W 0 (fun _ => true) true fuel t [.slice ao len cap] = some y) : (y.1 = .nil ∧ len = 0) ∨ ∃ A B, y.1 = .slice A B ∧ A.length = len := by
  rcases open_slice ht h with ⟨hcs, hx⟩ | ⟨a, len', cap', m, n, D, Pl, hcs, _, _, _, _, hx, _⟩
  · simp at hcs
    exact .inl ⟨by rw [hx], hcs.2.1⟩
  · simp at hcs
    exact .inr ⟨_, _, by rw [hx], by simp [hcs.2.1]⟩
theorem wt_slice {H : Type} {t e : TypeId} {len B : Nat} {d : DataW H} (ht : Tryz.prog.underlying t = some (.slice e)) (hs : (d = .nil ∧ len = 0) ∨ ∃ A C, d = .slice A C ∧ A.length = len) (h : ∀ n ∈ d.weights Tryz.prog t, n ≤ B) : len * Tryz.prog.bytesOf e ≤ B := by
  rcases hs with ⟨_, rfl⟩ | ⟨A, C, rfl, rfl⟩
  · simp
  · have := h ((A.length + C.length) * Tryz.prog.bytesOf e) (by unfold DataW.weights; rw [ht]; exact List.mem_cons_self ..)
    exact Nat.le_trans (Nat.mul_le_mul_right _ (Nat.le_add_right _ _)) this
theorem open_agg6d {H : Type} {enc : TypeId × Value → H} {P : Program} {w : World} {base : Nat} {spare : Nat → Bool} {held : Bool} {r : Reach} {b0 : Nat} {t : TypeId} {f0 f1 f2 f3 f4 f5 : Field} {v : Value} {d : DataW H} {p : List MemPlace} (hs : P.underlying t = some (.struct #[f0, f1, f2, f3, f4, f5])) (hone : oneCellFields P #[f0, f1, f2, f3, f4, f5] = true) (hC : P.cellsOf t = 6)
    (hv : Value.okWide P w r b0 t v) (h : DataW.Trod enc P w base spare held t v d p) :
    ∃ (v0 v1 v2 v3 v4 v5 : Value) (y0 y1 y2 y3 y4 y5 : DataW H × List MemPlace) (n : Nat), v = .agg #[v0, v1, v2, v3, v4, v5] ∧ d = .agg [y0.1, y1.1, y2.1, y3.1, y4.1, y5.1] ∧ p = y0.2 ++ (y1.2 ++ (y2.2 ++ (y3.2 ++ (y4.2 ++ y5.2)))) ∧
      DataW.trod enc P w base spare held n f0.type [v0] = some y0 ∧ DataW.trod enc P w base spare held n f1.type [v1] = some y1 ∧ DataW.trod enc P w base spare held n f2.type [v2] = some y2 ∧ DataW.trod enc P w base spare held n f3.type [v3] = some y3 ∧ DataW.trod enc P w base spare held n f4.type [v4] = some y4 ∧ DataW.trod enc P w base spare held n f5.type [v5] = some y5 := by
  obtain ⟨cs, rfl, hsz⟩ := okWide_struct hs hv
  obtain ⟨c0, c1, c2, c3, c4, c5, rfl⟩ := array6 (hsz.trans hC)
  obtain ⟨fuel, hf⟩ := h
  obtain ⟨y0, y1, y2, y3, y4, y5, n, hx, h0, h1, h2, h3, h4, h5⟩ := trod_struct6 hs hf
  obtain ⟨o0, k0⟩ := hone_of hone 0 f0 rfl
  obtain ⟨o1, k1⟩ := hone_of hone 1 f1 rfl
  obtain ⟨o2, k2⟩ := hone_of hone 2 f2 rfl
  obtain ⟨o3, k3⟩ := hone_of hone 3 f3 rfl
  obtain ⟨o4, k4⟩ := hone_of hone 4 f4 rfl
  obtain ⟨o5, k5⟩ := hone_of hone 5 f5 rfl
  simp only [Prod.mk.injEq] at hx
  exact ⟨c0, c1, c2, c3, c4, c5, y0, y1, y2, y3, y4, y5, n, rfl, hx.1, hx.2, by simpa [Value.cells, o0, k0] using h0, by simpa [Value.cells, o1, k1] using h1, by simpa [Value.cells, o2, k2] using h2, by simpa [Value.cells, o3, k3] using h3, by simpa [Value.cells, o4, k4] using h4, by simpa [Value.cells, o5, k5] using h5⟩
theorem Tryz.bytesI : Tryz.prog.bytesOf 43 = 8 := by kernel_rfl
theorem Tryz.bytesW : Tryz.prog.bytesOf 25 = 4 := by kernel_rfl
theorem Tryz.bytesB : Tryz.prog.bytesOf 5 = 1 := by kernel_rfl
theorem Tryz.bytesE : Tryz.prog.bytesOf 64 = 24 := by kernel_rfl
/-- an image that is handed in -/
theorem image_open {H : Type} {enc : TypeId × Value → H} {W : World} {r : Reach} {b0 : Nat} {v : Value} {d : DataW H} {p : List MemPlace}
    (hv : Value.okWide Tryz.prog W r b0 28 v) (h : DataW.Trod enc Tryz.prog W 0 (fun _ => true) true 28 v d p) (hlt : ∀ x ∈ p, x.block < W.heap.size) (hsz : ∀ n ∈ d.weights Tryz.prog 28, n ≤ 140737488351232) :
    ∃ (ac aj ad an : Option Addr) (cc cj cd cn z st : Nat) (L : List (Nat × Nat)) (J : List Nat) (ds : List Int) (M : List (ByteArray × Nat)), v = imV ac L.length cc aj J.length cj ad ds.length cd z st an M.length cn ∧ L.length * 8 ≤ 140737488351232 ∧ J.length * 4 ≤ 140737488351232 ∧ ds.length ≤ 140737488351232 ∧ M.length * 24 ≤ 140737488351232 ∧
      Wfc L ∧ (∀ q ∈ J, q < 4294967296) ∧ (∀ q ∈ M, q.2 < 4294967296) ∧ z < 4294967296 ∧ st < 4294967296 ∧ CRd W ac L W.heap.size ∧ JRd W aj J W.heap.size ∧ Reads W ad ds W.heap.size ∧ NRd W an M W.heap.size := by
  obtain ⟨c0, c1, c2, c3, c4, c5, y0, y1, y2, y3, y4, y5, k, rfl, rfl, hp, t0, t1, t2, t3, t4, t5⟩ := open_agg6d Tryz.underlying28 (by kernel_rfl) Tryz.cellsM6 hv h
  obtain ⟨z3, e3, _, w3⟩ := DataW.trod_int Tryz.underlying25 t3
  obtain ⟨z4, e4, _, w4⟩ := DataW.trod_int Tryz.underlying25 t4
  obtain ⟨ac, L, cc, rfl, _, q2, q3⟩ := codeC t0 (fun x hx => hlt x (by rw [hp]; simp [hx]))
  obtain ⟨aj, J, cj, rfl, _, r2, r3⟩ := jumpsC t1 (fun x hx => hlt x (by rw [hp]; simp [hx]))
  obtain ⟨ad, cd, ds, e2, _, _, u3, _⟩ := bytes_cells (d := y2.1) (p := y2.2) t2 (fun x hx => hlt x (by rw [hp]; simp [hx]))
  obtain ⟨an, M, cn, rfl, _, n2, n3⟩ := namesC t5 (fun x hx => hlt x (by rw [hp]; simp [hx]))
  simp only [List.cons.injEq, and_true] at e2 e3 e4
  subst e2 e3 e4
  obtain ⟨z, rfl, hz⟩ := nat_of (word_wf w3)
  obtain ⟨st, rfl, hst⟩ := nat_of (word_wf w4)
  have hw : ∀ n, n ∈ y0.1.weights Tryz.prog 22 ∨ n ∈ y1.1.weights Tryz.prog 23 ∨ n ∈ y2.1.weights Tryz.prog 24 ∨ n ∈ y5.1.weights Tryz.prog 26 → n ≤ 140737488351232 := fun n hn => by
    refine hsz n ?_
    unfold DataW.weights
    rw [Tryz.underlying28]
    simp only [List.map, DataW.weightsEach, List.mem_append]
    rcases hn with hn | hn | hn | hn
    · exact .inl hn
    · exact .inr (.inl hn)
    · exact .inr (.inr (.inl hn))
    · exact .inr (.inr (.inr (.inr (.inr (.inl hn)))))
  have s0 := wt_slice Tryz.underlying22 (slice_shape Tryz.underlying22 t0) (fun n hn => hw n (.inl hn))
  have s1 := wt_slice Tryz.underlying23 (slice_shape Tryz.underlying23 t1) (fun n hn => hw n (.inr (.inl hn)))
  have s2 := wt_slice Tryz.underlying24 (slice_shape Tryz.underlying24 t2) (fun n hn => hw n (.inr (.inr (.inl hn))))
  have s5 := wt_slice Tryz.underlying26 (slice_shape Tryz.underlying26 t5) (fun n hn => hw n (.inr (.inr (.inr hn))))
  rw [Tryz.bytesI] at s0
  rw [Tryz.bytesW] at s1
  rw [Tryz.bytesB] at s2
  rw [Tryz.bytesE] at s5
  exact ⟨ac, aj, ad, an, cc, cj, cd, cn, z, st, L, J, ds, M, rfl, s0, s1, by omega, s5, q2, r2, n2, by omega, by omega, q3, r3, u3, n3⟩
end Go.Proofs.YtgbpfejodpplbaaGreatDoor
