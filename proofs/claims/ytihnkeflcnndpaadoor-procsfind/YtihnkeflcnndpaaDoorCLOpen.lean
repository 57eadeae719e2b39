import Derived.Test.YtihnkeflcnndpaaDoorLBase
import Derived.ProofKit
import Derived.OpenShut
import Derived.SizedLaws
import Derived.JoinedCond
import Derived.Test.YtihnkeflcnndpaaDoorPFi
import Derived.Deep.SlicePairs
import Derived.Lib.SmallJoins
import Derived.Test.YtihnkeflcnndpaaDoorCPKn
import Derived.Deep.Slices
import Derived.ChangeMaps5
namespace Go.Proofs.YtihnkeflcnndpaaDoor
open Go.ChangeShapes Go.WideShapes Go.ChangeAt Go.RowKit

theorem Tryd.own : ownKnob Tryd.prog.godebug = none := by kernel_rfl
theorem Tryd.laidOut : laidOutB Tryd.prog = true := by kernel_rfl
theorem Tryd.cells5 : Tryd.prog.cellsOf 5 = 1 := by kernel_rfl
theorem Tryd.bytes5 : Tryd.prog.bytesOf 5 = 1 := by kernel_rfl
theorem int_wf {z : Int} (h : (Lit.int .i64 z).wf = true) : -9223372036854775808 ≤ z ∧ z ≤ 9223372036854775807 := by
  have h1 : IntKind.i64.min = -9223372036854775808 := rfl
  have h2 : IntKind.i64.max = 9223372036854775807 := rfl
  simp only [Lit.wf, Bool.and_eq_true, decide_eq_true_eq] at h
  omega
theorem byte_wf {z : Int} (h : (Lit.int .u8 z).wf = true) : 0 ≤ z ∧ z ≤ 255 := by
  simpa [Lit.wf, IntKind.min, IntKind.max, IntKind.signed, IntKind.bits] using h
theorem bulk_lits {H : Type} (k : IntKind) (zs : List Int) : Rows.uptoBulkAll (lits (H := H) k zs) = zs.length := by
  induction zs with
  | nil => rfl
  | cons z zs ih =>
    have e : lits (H := H) k (z :: zs) = .lit (.int k z) :: lits k zs := rfl
    rw [e]
    simp only [Rows.uptoBulkAll, Rows.uptoBulk, ih, List.length_cons]
    omega

/-- a slice of bytes that is handed in, or lies in what is -/
theorem bytes_cells {H : Type} {enc : TypeId × Value → H} {W : World} {fuel : Nat} {cs : List Value} {d : DataW H} {p : List MemPlace}
    (hf : DataW.trod enc Tryd.prog W 0 (fun _ => true) true fuel 80 cs = some (d, p)) (hlt : ∀ x ∈ p, x.block < W.heap.size) :
    ∃ (a0 : Option Addr) (cap : Nat) (zs : List Int), cs = [.slice a0 zs.length cap] ∧ zs.length ≤ cap ∧ (∀ z ∈ zs, 0 ≤ z ∧ z ≤ 255) ∧ Reads W a0 zs W.heap.size ∧ (d = .nil ∧ zs = [] ∨ ∃ sp, d = .slice (lits .u8 zs) (lits .u8 sp)) := by
  rcases open_ints Tryd.underlying80 Tryd.underlying5 Tryd.cells5 hf with ⟨hcs, hx⟩ | ⟨a, len, cap, zs, hcs, _, hl, hm, hz, hx, hcell, hwz⟩
  · simp only [Prod.mk.injEq] at hx
    exact ⟨none, 0, [], hcs, by simp, by simp, Reads.nil _ _ _, .inl ⟨hx.1, rfl⟩⟩
  · simp only [Prod.mk.injEq] at hx
    obtain ⟨rfl, rfl⟩ := hx
    simp only [if_true] at hz
    have hlz : (zs.take len).length = len := by simp; omega
    refine ⟨some a, cap, zs.take len, by rw [hlz]; exact hcs, by rw [hlz]; exact hl, fun z hz' => byte_wf (hwz z (List.mem_of_mem_take hz')), fun hpos => ?_, .inr ⟨_, rfl⟩⟩
    obtain ⟨b, off, spot⟩ := a
    have hspot : spot = none := by simpa [Addr.add] using World.cell?_spot (hcell 0 (by omega))
    subst hspot
    have hbW : b < W.heap.size := hlt (.cell b off) (MemPlace.mem_row.2 ⟨0, by omega, by simp⟩)
    refine ⟨b, off, rfl, hbW, fun j hj => ?_⟩
    rw [hlz] at hj
    rw [← add_plain, hcell j (by omega)]
    simp [hj]
theorem bytes_open {H : Type} {enc : TypeId × Value → H} {W : World} {a0 : Option Addr} {len cap : Nat} {d : DataW H} {p : List MemPlace}
    (h : DataW.Trod enc Tryd.prog W 0 (fun _ => true) true 80 (.slice a0 len cap) d p) (hlt : ∀ x ∈ p, x.block < W.heap.size) :
    ∃ zs : List Int, zs.length = len ∧ zs.length ≤ cap ∧ (∀ z ∈ zs, 0 ≤ z ∧ z ≤ 255) ∧ Reads W a0 zs W.heap.size ∧ (d = .nil ∧ zs = [] ∨ ∃ sp, d = .slice (lits .u8 zs) (lits .u8 sp)) := by
  obtain ⟨fuel, hf⟩ := h
  obtain ⟨a, c, zs, hcs, hcp, h1, h2, h3⟩ := bytes_cells hf hlt
  simp [Value.cells] at hcs
  obtain ⟨rfl, rfl, rfl⟩ := hcs
  exact ⟨zs, rfl, hcp, h1, h2, h3⟩
theorem quad_wf {z : Int} (h : (Lit.int .u64 z).wf = true) : 0 ≤ z ∧ z < 18446744073709551616 := by
  have h1 : IntKind.u64.min = 0 := rfl
  have h2 : IntKind.u64.max = 18446744073709551615 := rfl
  simp only [Lit.wf, Bool.and_eq_true, decide_eq_true_eq] at h
  omega
theorem word_wf {z : Int} (h : (Lit.int .u32 z).wf = true) : 0 ≤ z ∧ z ≤ 4294967295 := by
  simpa [Lit.wf, IntKind.min, IntKind.max, IntKind.signed, IntKind.bits] using h
theorem weightsAll_mem {H : Type} {P : Program} {e : TypeId} : ∀ {l : List (DataW H)} {d : DataW H}, d ∈ l → ∀ n ∈ d.weights P e, n ∈ DataW.weightsAll P e l
  | d' :: r, d, hd, n, hn => by
    simp only [DataW.weightsAll, List.mem_append]
    rcases List.mem_cons.1 hd with rfl | h
    · exact Or.inl hn
    · exact Or.inr (weightsAll_mem h n hn)
theorem lits_len {H : Type} (k : IntKind) (zs : List Int) : (lits (H := H) k zs).length = zs.length := by simp [lits]
end Go.Proofs.YtihnkeflcnndpaaDoor
namespace Go.Proofs.YtihnkeflcnndpaaDoor
open Go.ChangeShapes Go.WideShapes Go.ChangeAt Go.RowKit Go.Joins
set_option maxRecDepth 100000

theorem Tryd.cellsI2 : Tryd.prog.cellsOf 48 = 2 := by kernel_rfl
theorem Tryd.cellsO1 : Tryd.prog.cellsOf 46 = 1 := by kernel_rfl
theorem Tryd.cellsD1 : Tryd.prog.cellsOf 32 = 1 := by kernel_rfl
theorem Tryd.cellsX2 : Tryd.prog.cellsOf 61 = 2 := by kernel_rfl
theorem Tryd.cellsS1 : Tryd.prog.cellsOf 9 = 1 := by kernel_rfl
theorem Tryd.cellsC3 : Tryd.prog.cellsOf 26 = 3 := by kernel_rfl
theorem codeC {H : Type} {enc : TypeId × Value → H} {W : World} {fuel : Nat} {c : Value} {y : DataW H × List MemPlace}
    (hf : DataW.trod enc Tryd.prog W 0 (fun _ => true) true fuel 22 [c] = some y) (hlt : ∀ x ∈ y.2, x.block < W.heap.size) :
    ∃ (ao : Option Addr) (L : List (Nat × Nat)) (cap : Nat), c = .slice ao L.length cap ∧ L.length ≤ 9223372036854775807 ∧ Wfc L ∧ CRd W ao L W.heap.size := by
  rcases Go.Deep.open_slice_pairs Tryd.underlying22 Tryd.underlying48 Tryd.cellsI2 rfl rfl Tryd.cellsO1 Tryd.cellsD1 hf with ⟨hcs, hx⟩ | ⟨a, len, cap, m, n, V0, V1, D0, D1, P0, P1, hcs, _, hl, hm, hz, hx, hcell⟩
  · simp only [List.cons.injEq, and_true] at hcs
    exact ⟨none, [], 0, hcs, by simp, fun p hp => by simp at hp, fun hp => by simp at hp⟩
  · simp only [List.cons.injEq, and_true] at hcs
    subst hcs hx
    simp only [if_true] at hz
    subst hz
    unfold maxLen at hm
    have each : ∀ i, i < len → ∃ q : Nat × Nat, V0 i = .int .u8 q.1 ∧ V1 i = .int .u32 q.2 ∧ q.1 < 256 ∧ q.2 < 4294967296 := by
      intro i hi
      obtain ⟨_, _, g0, g1⟩ := hcell i (by omega)
      obtain ⟨s, e0, _, w0⟩ := DataW.trod_int Tryd.underlying46 g0
      obtain ⟨u, e1, _, w1⟩ := DataW.trod_int Tryd.underlying32 g1
      simp at e0 e1
      have h0 := byte_wf w0
      have h1 := word_wf w1
      exact ⟨(s.toNat, u.toNat), by rw [e0]; simp only []; rw [Int.toNat_of_nonneg h0.1], by rw [e1]; simp only []; rw [Int.toNat_of_nonneg h1.1], by simp only []; omega, by simp only []; omega⟩
    obtain ⟨f, hfx⟩ : ∃ f : Nat → Nat × Nat, ∀ i, i < len → V0 i = .int .u8 (f i).1 ∧ V1 i = .int .u32 (f i).2 ∧ (f i).1 < 256 ∧ (f i).2 < 4294967296 :=
      ⟨fun i => if hi : i < len then (each i hi).choose else (0, 0), fun i hi => by simp only [hi, dite_true]; exact (each i hi).choose_spec⟩
    have hgd : ∀ j, j < len → ((List.range len).map f).getD j (0, 0) = f j := fun j hj => by simp [hj]
    refine ⟨some a, (List.range len).map f, m, by simp, by simp; omega, ?_, ?_⟩
    · intro p hp
      obtain ⟨i, hi, rfl⟩ := List.mem_map.1 hp
      exact (hfx i (List.mem_range.1 hi)).2.2
    · intro hpos
      simp at hpos
      obtain ⟨b, off, spot⟩ := a
      have hspot : spot = none := by simpa [Addr.add] using World.cell?_spot (hcell 0 (by omega)).1
      subst hspot
      have hbW : b < W.heap.size := hlt (.cell b off) (List.mem_append_left _ (MemPlace.mem_row.2 ⟨0, by omega, by simp⟩))
      refine ⟨b, off, rfl, hbW, fun j hj => ?_⟩
      simp at hj
      obtain ⟨c0, c1, _, _⟩ := hcell j (by omega)
      obtain ⟨e0, e1, _, _⟩ := hfx j hj
      rw [add_plain] at c0 c1
      rw [hgd j hj]
      exact ⟨by rw [c0, e0], by rw [Nat.add_assoc, c1, e1]⟩
theorem namesC {H : Type} {enc : TypeId × Value → H} {W : World} {fuel : Nat} {c : Value} {y : DataW H × List MemPlace}
    (hf : DataW.trod enc Tryd.prog W 0 (fun _ => true) true fuel 24 [c] = some y) (hlt : ∀ x ∈ y.2, x.block < W.heap.size) :
    ∃ (ao : Option Addr) (M : List (ByteArray × Nat)) (cap : Nat), c = .slice ao M.length cap ∧ M.length ≤ 9223372036854775807 ∧ (∀ j, j < M.length → (M.getD j (.empty, 0)).2 < 4294967296) ∧ NRd W ao M W.heap.size := by
  rcases Go.Deep.open_slice_pairs Tryd.underlying24 Tryd.underlying61 Tryd.cellsX2 rfl rfl Tryd.cellsS1 Tryd.cellsD1 hf with ⟨hcs, hx⟩ | ⟨a, len, cap, m, n, V0, V1, D0, D1, P0, P1, hcs, _, hl, hm, hz, hx, hcell⟩
  · simp only [List.cons.injEq, and_true] at hcs
    exact ⟨none, [], 0, hcs, by simp, fun p hp => by simp at hp, fun hp => by simp at hp⟩
  · simp only [List.cons.injEq, and_true] at hcs
    subst hcs hx
    simp only [if_true] at hz
    subst hz
    unfold maxLen at hm
    have each : ∀ i, i < len → ∃ q : ByteArray × Nat, V0 i = .string q.1 ∧ V1 i = .int .u32 q.2 ∧ q.2 < 4294967296 := by
      intro i hi
      obtain ⟨_, _, g0, g1⟩ := hcell i (by omega)
      obtain ⟨s, e0, _, _⟩ := DataW.trod_string Tryd.underlying9 g0
      obtain ⟨u, e1, _, w1⟩ := DataW.trod_int Tryd.underlying32 g1
      simp at e0 e1
      have h1 := word_wf w1
      exact ⟨(s, u.toNat), by rw [e0], by rw [e1]; simp only []; rw [Int.toNat_of_nonneg h1.1], by simp only []; omega⟩
    obtain ⟨f, hfx⟩ : ∃ f : Nat → ByteArray × Nat, ∀ i, i < len → V0 i = .string (f i).1 ∧ V1 i = .int .u32 (f i).2 ∧ (f i).2 < 4294967296 :=
      ⟨fun i => if hi : i < len then (each i hi).choose else (.empty, 0), fun i hi => by simp only [hi, dite_true]; exact (each i hi).choose_spec⟩
    have hgd : ∀ j, j < len → ((List.range len).map f).getD j (.empty, 0) = f j := fun j hj => by simp [hj]
    refine ⟨some a, (List.range len).map f, m, by simp, by simp; omega, ?_, ?_⟩
    · intro j hj
      simp at hj
      rw [hgd j hj]
      exact (hfx j hj).2.2
    · intro hpos
      simp at hpos
      obtain ⟨b, off, spot⟩ := a
      have hspot : spot = none := by simpa [Addr.add] using World.cell?_spot (hcell 0 (by omega)).1
      subst hspot
      have hbW : b < W.heap.size := hlt (.cell b off) (List.mem_append_left _ (MemPlace.mem_row.2 ⟨0, by omega, by simp⟩))
      refine ⟨b, off, rfl, hbW, fun j hj => ?_⟩
      simp at hj
      obtain ⟨c0, c1, _, _⟩ := hcell j (by omega)
      obtain ⟨e0, e1, _⟩ := hfx j hj
      rw [add_plain] at c0 c1
      rw [hgd j hj]
      exact ⟨by rw [c0, e0], by rw [Nat.add_assoc, c1, e1]⟩
theorem jumpsC {H : Type} {enc : TypeId × Value → H} {W : World} {fuel : Nat} {c : Value} {y : DataW H × List MemPlace}
    (hf : DataW.trod enc Tryd.prog W 0 (fun _ => true) true fuel 23 [c] = some y) (hlt : ∀ x ∈ y.2, x.block < W.heap.size) :
    ∃ (ao : Option Addr) (J : List Nat) (cap : Nat), c = .slice ao J.length cap ∧ J.length ≤ 9223372036854775807 ∧ (∀ z ∈ J, z < 4294967296) ∧ JRd W ao J W.heap.size := by
  rcases open_ints Tryd.underlying23 Tryd.underlying32 Tryd.cellsD1 hf with ⟨hcs, hx⟩ | ⟨a, len, cap, zs, hcs, _, hl, hm, hz, hx, hcell, hwz⟩
  · simp only [List.cons.injEq, and_true] at hcs
    exact ⟨none, [], 0, hcs, by simp, fun p hp => by simp at hp, fun hp => by simp at hp⟩
  · simp only [List.cons.injEq, and_true] at hcs
    subst hcs hx
    simp only [if_true] at hz
    unfold maxLen at hm
    have hlz : ((zs.take len).map Int.toNat).length = len := by simp; omega
    refine ⟨some a, (zs.take len).map Int.toNat, cap, by rw [hlz], by rw [hlz]; omega, fun z hz' => ?_, fun hpos => ?_⟩
    · obtain ⟨u, hu, rfl⟩ := List.mem_map.1 hz'
      have := word_wf (hwz u (List.mem_of_mem_take hu))
      omega
    · obtain ⟨b, off, spot⟩ := a
      rw [hlz] at hpos
      have hspot : spot = none := by simpa [Addr.add] using World.cell?_spot (hcell 0 (by omega))
      subst hspot
      have hbW : b < W.heap.size := hlt (.cell b off) (MemPlace.mem_row.2 ⟨0, by omega, by simp⟩)
      refine ⟨b, off, rfl, hbW, fun j hj => ?_⟩
      rw [hlz] at hj
      have hjz : j < zs.length := by omega
      have hw := word_wf (hwz zs[j] (List.getElem_mem hjz))
      rw [← add_plain, hcell j (by omega)]
      simp [hj, hjz]
      omega
/-- what Find is handed, handed in -/
theorem code3_open {H : Type} {enc : TypeId × Value → H} {W : World} {r : Reach} {b0 : Nat} {v : Value} {d : DataW H} {p : List MemPlace}
    (hv : Value.okWide Tryd.prog W r b0 26 v) (h : DataW.Trod enc Tryd.prog W 0 (fun _ => true) true 26 v d p) (hlt : ∀ x ∈ p, x.block < W.heap.size) :
    ∃ (ao aj an : Option Addr) (cap capj capn : Nat) (L : List (Nat × Nat)) (J : List Nat) (M : List (ByteArray × Nat)), v = .agg #[.slice ao L.length cap, .slice aj J.length capj, .slice an M.length capn] ∧ L.length ≤ 9223372036854775807 ∧ J.length ≤ 9223372036854775807 ∧ M.length ≤ 9223372036854775807 ∧ Wfc L ∧ (∀ z ∈ J, z < 4294967296) ∧ (∀ j, j < M.length → (M.getD j (.empty, 0)).2 < 4294967296) ∧ CRd W ao L W.heap.size ∧ JRd W aj J W.heap.size ∧ NRd W an M W.heap.size := by
  obtain ⟨c0, c1, c2, y0, y1, y2, k, rfl, _, hp, t0, t1, t2⟩ := open_agg3 Tryd.underlying26 (by kernel_rfl) Tryd.cellsC3 hv h
  obtain ⟨ao, L, cap, rfl, q1, q2, q3⟩ := codeC t0 (fun x hx => hlt x (by rw [hp]; simp [hx]))
  obtain ⟨aj, J, capj, rfl, r1, r2, r3⟩ := jumpsC t1 (fun x hx => hlt x (by rw [hp]; simp [hx]))
  obtain ⟨an, M, capn, rfl, s1, s2, s3⟩ := namesC t2 (fun x hx => hlt x (by rw [hp]; simp [hx]))
  exact ⟨ao, aj, an, cap, capj, capn, L, J, M, rfl, q1, r1, s1, q2, r2, s2, q3, r3, s3⟩
end Go.Proofs.YtihnkeflcnndpaaDoor
namespace Go.Proofs.YtihnkeflcnndpaaDoor
open Go.ChangeShapes Go.WideShapes Go.ChangeAt Go.RowKit Go.Joins Go.Deep
set_option maxRecDepth 100000

theorem codeCq {H : Type} {enc : TypeId × Value → H} {W : World} {fuel : Nat} {c : Value} {y : DataW H × List MemPlace}
    (hf : DataW.trod enc Tryd.prog W 0 (fun _ => true) true fuel 22 [c] = some y) (hlt : ∀ x ∈ y.2, x.block < W.heap.size) (hw : ∀ m ∈ y.1.weights Tryd.prog 22, m ≤ reachBytes) :
    ∃ (ao : Option Addr) (L : List (Nat × Nat)) (cap : Nat), c = .slice ao L.length cap ∧ L.length ≤ 17592186043904 ∧ Wfc L ∧ CRd W ao L W.heap.size := by
  rcases Go.Deep.open_slice_pairs Tryd.underlying22 Tryd.underlying48 Tryd.cellsI2 rfl rfl Tryd.cellsO1 Tryd.cellsD1 hf with ⟨hcs, hx⟩ | ⟨a, len, cap, m, n, V0, V1, D0, D1, P0, P1, hcs, _, hl, hm, hz, hx, hcell⟩
  · simp only [List.cons.injEq, and_true] at hcs
    exact ⟨none, [], 0, hcs, by simp, fun p hp => by simp at hp, fun hp => by simp at hp⟩
  · simp only [List.cons.injEq, and_true] at hcs
    subst hcs hx
    simp only [if_true] at hz
    subst hz
    unfold maxLen at hm
    have hwl : len * 8 ≤ reachBytes := by
      have hw2 := hw
      simp only [DataW.weights, Tryd.underlying22] at hw2
      have := hw2 _ List.mem_cons_self
      rw [show Tryd.prog.bytesOf 48 = 8 by kernel_rfl] at this
      simp at this
      omega
    unfold reachBytes at hwl
    have each : ∀ i, i < len → ∃ q : Nat × Nat, V0 i = .int .u8 q.1 ∧ V1 i = .int .u32 q.2 ∧ q.1 < 256 ∧ q.2 < 4294967296 := by
      intro i hi
      obtain ⟨_, _, g0, g1⟩ := hcell i (by omega)
      obtain ⟨s, e0, _, w0⟩ := DataW.trod_int Tryd.underlying46 g0
      obtain ⟨u, e1, _, w1⟩ := DataW.trod_int Tryd.underlying32 g1
      simp at e0 e1
      have h0 := byte_wf w0
      have h1 := word_wf w1
      exact ⟨(s.toNat, u.toNat), by rw [e0]; simp only []; rw [Int.toNat_of_nonneg h0.1], by rw [e1]; simp only []; rw [Int.toNat_of_nonneg h1.1], by simp only []; omega, by simp only []; omega⟩
    obtain ⟨f, hfx⟩ : ∃ f : Nat → Nat × Nat, ∀ i, i < len → V0 i = .int .u8 (f i).1 ∧ V1 i = .int .u32 (f i).2 ∧ (f i).1 < 256 ∧ (f i).2 < 4294967296 :=
      ⟨fun i => if hi : i < len then (each i hi).choose else (0, 0), fun i hi => by simp only [hi, dite_true]; exact (each i hi).choose_spec⟩
    have hgd : ∀ j, j < len → ((List.range len).map f).getD j (0, 0) = f j := fun j hj => by simp [hj]
    refine ⟨some a, (List.range len).map f, m, by simp, by simp; omega, ?_, ?_⟩
    · intro p hp
      obtain ⟨i, hi, rfl⟩ := List.mem_map.1 hp
      exact (hfx i (List.mem_range.1 hi)).2.2
    · intro hpos
      simp at hpos
      obtain ⟨b, off, spot⟩ := a
      have hspot : spot = none := by simpa [Addr.add] using World.cell?_spot (hcell 0 (by omega)).1
      subst hspot
      have hbW : b < W.heap.size := hlt (.cell b off) (List.mem_append_left _ (MemPlace.mem_row.2 ⟨0, by omega, by simp⟩))
      refine ⟨b, off, rfl, hbW, fun j hj => ?_⟩
      simp at hj
      obtain ⟨c0, c1, _, _⟩ := hcell j (by omega)
      obtain ⟨e0, e1, _, _⟩ := hfx j hj
      rw [add_plain] at c0 c1
      rw [hgd j hj]
      exact ⟨by rw [c0, e0], by rw [Nat.add_assoc, c1, e1]⟩
theorem namesCq {H : Type} {enc : TypeId × Value → H} {W : World} {fuel : Nat} {c : Value} {y : DataW H × List MemPlace}
    (hf : DataW.trod enc Tryd.prog W 0 (fun _ => true) true fuel 24 [c] = some y) (hlt : ∀ x ∈ y.2, x.block < W.heap.size) (hw : ∀ m ∈ y.1.weights Tryd.prog 24, m ≤ reachBytes) :
    ∃ (ao : Option Addr) (M : List (ByteArray × Nat)) (cap : Nat), c = .slice ao M.length cap ∧ M.length ≤ 5864062014634 ∧ (∀ j, j < M.length → (M.getD j (.empty, 0)).2 < 4294967296) ∧ NRd W ao M W.heap.size ∧ (ao = none → cap = 0) := by
  rcases Go.Deep.open_slice_pairs Tryd.underlying24 Tryd.underlying61 Tryd.cellsX2 rfl rfl Tryd.cellsS1 Tryd.cellsD1 hf with ⟨hcs, hx⟩ | ⟨a, len, cap, m, n, V0, V1, D0, D1, P0, P1, hcs, _, hl, hm, hz, hx, hcell⟩
  · simp only [List.cons.injEq, and_true] at hcs
    exact ⟨none, [], 0, hcs, by simp, fun p hp => by simp at hp, fun hp => by simp at hp, fun _ => rfl⟩
  · simp only [List.cons.injEq, and_true] at hcs
    subst hcs hx
    simp only [if_true] at hz
    subst hz
    unfold maxLen at hm
    have hwl : len * 24 ≤ reachBytes := by
      have hw2 := hw
      simp only [DataW.weights, Tryd.underlying24] at hw2
      have := hw2 _ List.mem_cons_self
      rw [show Tryd.prog.bytesOf 61 = 24 by kernel_rfl] at this
      simp at this
      omega
    unfold reachBytes at hwl
    have each : ∀ i, i < len → ∃ q : ByteArray × Nat, V0 i = .string q.1 ∧ V1 i = .int .u32 q.2 ∧ q.2 < 4294967296 := by
      intro i hi
      obtain ⟨_, _, g0, g1⟩ := hcell i (by omega)
      obtain ⟨s, e0, _, _⟩ := DataW.trod_string Tryd.underlying9 g0
      obtain ⟨u, e1, _, w1⟩ := DataW.trod_int Tryd.underlying32 g1
      simp at e0 e1
      have h1 := word_wf w1
      exact ⟨(s, u.toNat), by rw [e0], by rw [e1]; simp only []; rw [Int.toNat_of_nonneg h1.1], by simp only []; omega⟩
    obtain ⟨f, hfx⟩ : ∃ f : Nat → ByteArray × Nat, ∀ i, i < len → V0 i = .string (f i).1 ∧ V1 i = .int .u32 (f i).2 ∧ (f i).2 < 4294967296 :=
      ⟨fun i => if hi : i < len then (each i hi).choose else (.empty, 0), fun i hi => by simp only [hi, dite_true]; exact (each i hi).choose_spec⟩
    have hgd : ∀ j, j < len → ((List.range len).map f).getD j (.empty, 0) = f j := fun j hj => by simp [hj]
    refine ⟨some a, (List.range len).map f, m, by simp, by simp; omega, ?_, ?_, fun h => by cases h⟩
    · intro j hj
      simp at hj
      rw [hgd j hj]
      exact (hfx j hj).2.2
    · intro hpos
      simp at hpos
      obtain ⟨b, off, spot⟩ := a
      have hspot : spot = none := by simpa [Addr.add] using World.cell?_spot (hcell 0 (by omega)).1
      subst hspot
      have hbW : b < W.heap.size := hlt (.cell b off) (List.mem_append_left _ (MemPlace.mem_row.2 ⟨0, by omega, by simp⟩))
      refine ⟨b, off, rfl, hbW, fun j hj => ?_⟩
      simp at hj
      obtain ⟨c0, c1, _, _⟩ := hcell j (by omega)
      obtain ⟨e0, e1, _⟩ := hfx j hj
      rw [add_plain] at c0 c1
      rw [hgd j hj]
      exact ⟨by rw [c0, e0], by rw [Nat.add_assoc, c1, e1]⟩
theorem jumpsCq {H : Type} {enc : TypeId × Value → H} {W : World} {fuel : Nat} {c : Value} {y : DataW H × List MemPlace}
    (hf : DataW.trod enc Tryd.prog W 0 (fun _ => true) true fuel 23 [c] = some y) (hlt : ∀ x ∈ y.2, x.block < W.heap.size) (hw : ∀ m ∈ y.1.weights Tryd.prog 23, m ≤ reachBytes) :
    ∃ (ao : Option Addr) (J : List Nat) (cap : Nat), c = .slice ao J.length cap ∧ J.length ≤ 35184372087808 ∧ (∀ z ∈ J, z < 4294967296) ∧ JRd W ao J W.heap.size := by
  rcases open_ints Tryd.underlying23 Tryd.underlying32 Tryd.cellsD1 hf with ⟨hcs, hx⟩ | ⟨a, len, cap, zs, hcs, _, hl, hm, hz, hx, hcell, hwz⟩
  · simp only [List.cons.injEq, and_true] at hcs
    exact ⟨none, [], 0, hcs, by simp, fun p hp => by simp at hp, fun hp => by simp at hp⟩
  · simp only [List.cons.injEq, and_true] at hcs
    subst hcs hx
    simp only [if_true] at hz
    unfold maxLen at hm
    have hwl : len * 4 ≤ reachBytes := by
      have hw2 := hw
      simp only [DataW.weights, Tryd.underlying23] at hw2
      have := hw2 _ List.mem_cons_self
      rw [show Tryd.prog.bytesOf 32 = 4 by kernel_rfl] at this
      try simp at this
      try simp [lits] at this
      omega
    unfold reachBytes at hwl
    have hlz : ((zs.take len).map Int.toNat).length = len := by simp; omega
    refine ⟨some a, (zs.take len).map Int.toNat, cap, by rw [hlz], by rw [hlz]; omega, fun z hz' => ?_, fun hpos => ?_⟩
    · obtain ⟨u, hu, rfl⟩ := List.mem_map.1 hz'
      have := word_wf (hwz u (List.mem_of_mem_take hu))
      omega
    · obtain ⟨b, off, spot⟩ := a
      rw [hlz] at hpos
      have hspot : spot = none := by simpa [Addr.add] using World.cell?_spot (hcell 0 (by omega))
      subst hspot
      have hbW : b < W.heap.size := hlt (.cell b off) (MemPlace.mem_row.2 ⟨0, by omega, by simp⟩)
      refine ⟨b, off, rfl, hbW, fun j hj => ?_⟩
      rw [hlz] at hj
      have hjz : j < zs.length := by omega
      have hw := word_wf (hwz zs[j] (List.getElem_mem hjz))
      rw [← add_plain, hcell j (by omega)]
      simp [hj, hjz]
      omega
theorem code3_openq {H : Type} {enc : TypeId × Value → H} {W : World} {r : Reach} {b0 : Nat} {v : Value} {d : DataW H} {p : List MemPlace}
    (hv : Value.okWide Tryd.prog W r b0 26 v) (h : DataW.Trod enc Tryd.prog W 0 (fun _ => true) true 26 v d p) (hlt : ∀ x ∈ p, x.block < W.heap.size) (hw : ∀ m ∈ d.weights Tryd.prog 26, m ≤ reachBytes) :
    ∃ (ao aj an : Option Addr) (cap capj capn : Nat) (L : List (Nat × Nat)) (J : List Nat) (M : List (ByteArray × Nat)), v = .agg #[.slice ao L.length cap, .slice aj J.length capj, .slice an M.length capn] ∧ L.length ≤ 17592186043904 ∧ J.length ≤ 35184372087808 ∧ M.length ≤ 5864062014634 ∧ (an = none → capn = 0) ∧ Wfc L ∧ (∀ z ∈ J, z < 4294967296) ∧ (∀ j, j < M.length → (M.getD j (.empty, 0)).2 < 4294967296) ∧ CRd W ao L W.heap.size ∧ JRd W aj J W.heap.size ∧ NRd W an M W.heap.size := by
  obtain ⟨c0, c1, c2, y0, y1, y2, k, rfl, hd, hp, t0, t1, t2⟩ := open_agg3 Tryd.underlying26 (by kernel_rfl) Tryd.cellsC3 hv h
  have hwe : ∀ (j : Nat) (t : TypeId) (e : DataW H), [22, 23, 24][j]? = some t → [y0.1, y1.1, y2.1][j]? = some e → ∀ m ∈ e.weights Tryd.prog t, m ≤ reachBytes := fun j t e h1 h2 m hm => hw m (by
    rw [hd]
    unfold DataW.weights
    rw [Tryd.underlying26]
    exact DataW.weights_mem_each (j := j) (t := t) (d := e) (by simpa using h1) h2 _ hm)
  obtain ⟨ao, L, cap, rfl, q1, q2, q3⟩ := codeCq t0 (fun x hx => hlt x (by rw [hp]; simp [hx])) (hwe 0 _ _ rfl rfl)
  obtain ⟨aj, J, capj, rfl, r1, r2, r3⟩ := jumpsCq t1 (fun x hx => hlt x (by rw [hp]; simp [hx])) (hwe 1 _ _ rfl rfl)
  obtain ⟨an, M, capn, rfl, s1, s2, s3, s4⟩ := namesCq t2 (fun x hx => hlt x (by rw [hp]; simp [hx])) (hwe 2 _ _ rfl rfl)
  exact ⟨ao, aj, an, cap, capj, capn, L, J, M, rfl, q1, r1, s1, s4, q2, r2, s2, q3, r3, s3⟩
theorem Tryd.cellsA5 : Tryd.prog.cellsOf 34 = 5 := by kernel_rfl
theorem elem5 {H : Type} {enc : TypeId × Value → H} {P : Program} {w : World} {base : Nat} {spare : Nat → Bool} {held : Bool} {e : TypeId} {f0 f1 f2 f3 f4 : Field} {n : Nat} {cs : List Value} {x : DataW H × List MemPlace} (he : P.underlying e = some (.struct #[f0, f1, f2, f3, f4])) (hone : oneCellFields P #[f0, f1, f2, f3, f4] = true) (hl : cs.length = 5) (h : DataW.trod enc P w base spare held n e cs = some x) :
    ∃ (v0 v1 v2 v3 v4 : Value) (y0 y1 y2 y3 y4 : DataW H × List MemPlace) (k : Nat), cs = [v0, v1, v2, v3, v4] ∧ DataW.trod enc P w base spare held k f0.type [v0] = some y0 ∧ DataW.trod enc P w base spare held k f1.type [v1] = some y1 ∧ DataW.trod enc P w base spare held k f2.type [v2] = some y2 ∧ DataW.trod enc P w base spare held k f3.type [v3] = some y3 ∧ DataW.trod enc P w base spare held k f4.type [v4] = some y4 := by
  obtain ⟨xs, k, _, rfl, _, hlen, hf⟩ := DataW.trod_struct he h
  match xs, hlen, cs, hl with
  | [y0, y1, y2, y3, y4], _, [v0, v1, v2, v3, v4], _ =>
    have h0 := hf 0 f0 rfl
    obtain ⟨o0, k0⟩ := hone_of hone 0 f0 rfl
    rw [o0, k0] at h0
    have h1 := hf 1 f1 rfl
    obtain ⟨o1, k1⟩ := hone_of hone 1 f1 rfl
    rw [o1, k1] at h1
    have h2 := hf 2 f2 rfl
    obtain ⟨o2, k2⟩ := hone_of hone 2 f2 rfl
    rw [o2, k2] at h2
    have h3 := hf 3 f3 rfl
    obtain ⟨o3, k3⟩ := hone_of hone 3 f3 rfl
    rw [o3, k3] at h3
    have h4 := hf 4 f4 rfl
    obtain ⟨o4, k4⟩ := hone_of hone 4 f4 rfl
    rw [o4, k4] at h4
    exact ⟨v0, v1, v2, v3, v4, y0, y1, y2, y3, y4, k, rfl, by simpa using h0, by simpa using h1, by simpa using h2, by simpa using h3, by simpa using h4⟩
theorem ask_open {H : Type} {enc : TypeId × Value → H} {W : World} {n b off i : Nat} {cs : List Value} {x : DataW H × List MemPlace} (h1 : W.cells? 0 ((⟨b, off, none⟩ : Addr).add (i * 5)) 5 = some cs) (h : DataW.trod enc Tryd.prog W 0 (fun _ => true) true n 34 cs = some x) :
    ∃ s : Ak, (W.cell? ⟨b, off + i * 5, none⟩ = some (.int .i64 s.1) ∧ W.cell? ⟨b, off + i * 5 + 1, none⟩ = some (.int .i64 s.2.1) ∧ W.cell? ⟨b, off + i * 5 + 2, none⟩ = some (.int .i64 s.2.2.1) ∧ W.cell? ⟨b, off + i * 5 + 3, none⟩ = some (.int .u32 (s.2.2.2.1 : Nat)) ∧ W.cell? ⟨b, off + i * 5 + 4, none⟩ = some (.int .u32 (s.2.2.2.2 : Nat))) ∧ AkOk s := by
  obtain ⟨_, hlen, hcell⟩ := World.cells?_some h1
  obtain ⟨v0, v1, v2, v3, v4, y0, y1, y2, y3, y4, k, rfl, t0, t1, t2, t3, t4⟩ := elem5 Tryd.underlying34 (by kernel_rfl) hlen h
  have hc : ∀ j, j < 5 → W.cell? ⟨b, off + i * 5 + j, none⟩ = [v0, v1, v2, v3, v4][j]? := fun j hj => by
    have := hcell j (by omega)
    rw [Go.Deep.add_add, Go.WideShapes.add_plain] at this
    rw [Nat.add_assoc, this]
  obtain ⟨z0, e0, _, w0⟩ := DataW.trod_int Tryd.underlying3 t0
  obtain ⟨z1, e1, _, w1⟩ := DataW.trod_int Tryd.underlying3 t1
  obtain ⟨z2, e2, _, w2⟩ := DataW.trod_int Tryd.underlying3 t2
  obtain ⟨z3, e3, _, w3⟩ := DataW.trod_int Tryd.underlying32 t3
  obtain ⟨z4, e4, _, w4⟩ := DataW.trod_int Tryd.underlying32 t4
  simp at e0 e1 e2 e3 e4
  subst e0 e1 e2 e3 e4
  have b0 := int_wf w0
  have b2 := int_wf w2
  have b3 := word_wf w3
  have b4 := word_wf w4
  refine ⟨(z0, z1, z2, z3.toNat, z4.toNat), ⟨(hc 0 (by decide)).trans rfl, (hc 1 (by decide)).trans rfl, (hc 2 (by decide)).trans rfl, ?_, ?_⟩, ⟨by simp only; omega, by simp only; omega, by simp only; omega, by simp only; omega, by simp only; omega, by simp only; omega⟩⟩
  · refine (hc 3 (by decide)).trans ?_
    simp only []
    rw [Int.toNat_of_nonneg b3.1]
    rfl
  · refine (hc 4 (by decide)).trans ?_
    simp only []
    rw [Int.toNat_of_nonneg b4.1]
    rfl
theorem asks_open {H : Type} {enc : TypeId × Value → H} {W : World} {a0 : Option Addr} {len cap : Nat} {d : DataW H} {p : List MemPlace}
    (h : DataW.Trod enc Tryd.prog W 0 (fun _ => true) true 27 (.slice a0 len cap) d p) (hlt : ∀ x ∈ p, x.block < W.heap.size) (hw : ∀ m ∈ d.weights Tryd.prog 27, m ≤ reachBytes) :
    ∃ S : List Ak, S.length = len ∧ AkRd W a0 S W.heap.size ∧ (∀ s ∈ S, AkOk s) ∧ S.length ≤ 4611686018427387904 := by
  obtain ⟨fuel, hf⟩ := h
  rcases Go.Deep.open_slice Tryd.underlying27 hf with ⟨hcs, hx⟩ | ⟨a, len', cap', m, n, D, Pl, hcs, _, hl, hm, hmm, hx, hel⟩
  · simp [Value.cells] at hcs
    obtain ⟨rfl, rfl, rfl⟩ := hcs
    exact ⟨[], rfl, fun hj => by simp at hj, fun s hs => by simp at hs, by simp⟩
  · simp only [Prod.mk.injEq] at hx
    obtain ⟨rfl, rfl⟩ := hx
    simp [Value.cells] at hcs
    obtain ⟨rfl, rfl, rfl⟩ := hcs
    simp only [if_true] at hmm
    subst hmm
    rw [Tryd.cellsA5] at hel hlt
    have hwl : len * 32 ≤ reachBytes := by
      have hw2 := hw
      simp only [DataW.weights, Tryd.underlying27] at hw2
      have := hw2 _ List.mem_cons_self
      rw [show Tryd.prog.bytesOf 34 = 32 by kernel_rfl] at this
      simp at this
      omega
    by_cases hz : len = 0
    · subst hz
      exact ⟨[], rfl, fun hj => by simp at hj, fun s hs => by simp at hs, by simp⟩
    obtain ⟨b, off, spot⟩ := a
    obtain ⟨cs0, g0, _⟩ := hel 0 (by omega)
    have hspot : spot = none := by
      obtain ⟨_, hl0, hc0⟩ := World.cells?_some g0
      have := hc0 0 (by omega)
      rw [List.getElem?_eq_getElem (by omega)] at this
      simpa [Addr.add] using World.cell?_spot this
    subst hspot
    have hbW : b < W.heap.size := hlt (.cell b off) (List.mem_append_left _ (MemPlace.mem_row.2 ⟨0, by omega, by simp⟩))
    have each : ∀ i, i < len → ∃ s : Ak, (W.cell? ⟨b, off + i * 5, none⟩ = some (.int .i64 s.1) ∧ W.cell? ⟨b, off + i * 5 + 1, none⟩ = some (.int .i64 s.2.1) ∧ W.cell? ⟨b, off + i * 5 + 2, none⟩ = some (.int .i64 s.2.2.1) ∧ W.cell? ⟨b, off + i * 5 + 3, none⟩ = some (.int .u32 (s.2.2.2.1 : Nat)) ∧ W.cell? ⟨b, off + i * 5 + 4, none⟩ = some (.int .u32 (s.2.2.2.2 : Nat))) ∧ AkOk s := fun i hi => by
      obtain ⟨cs', g1, g2⟩ := hel i (by omega)
      exact ask_open g1 g2
    obtain ⟨f, hfx⟩ : ∃ f : Nat → Ak, ∀ i, i < len → (W.cell? ⟨b, off + i * 5, none⟩ = some (.int .i64 (f i).1) ∧ W.cell? ⟨b, off + i * 5 + 1, none⟩ = some (.int .i64 (f i).2.1) ∧ W.cell? ⟨b, off + i * 5 + 2, none⟩ = some (.int .i64 (f i).2.2.1) ∧ W.cell? ⟨b, off + i * 5 + 3, none⟩ = some (.int .u32 ((f i).2.2.2.1 : Nat)) ∧ W.cell? ⟨b, off + i * 5 + 4, none⟩ = some (.int .u32 ((f i).2.2.2.2 : Nat))) ∧ AkOk (f i) :=
      ⟨fun i => if hi : i < len then (each i hi).choose else (0, 0, 0, 0, 0), fun i hi => by simp only [hi, dite_true]; exact (each i hi).choose_spec⟩
    refine ⟨(List.range len).map f, by simp, ?_, ?_, by unfold reachBytes at hwl; simp; omega⟩
    · intro _
      refine ⟨b, off, rfl, hbW, fun j hj => ?_⟩
      simp at hj
      rw [show ((List.range len).map f).getD j (0, 0, 0, 0, 0) = f j by simp [hj]]
      exact (hfx j hj).1
    · intro s hs
      obtain ⟨i, hi, rfl⟩ := List.mem_map.1 hs
      exact (hfx i (List.mem_range.1 hi)).2
end Go.Proofs.YtihnkeflcnndpaaDoor
