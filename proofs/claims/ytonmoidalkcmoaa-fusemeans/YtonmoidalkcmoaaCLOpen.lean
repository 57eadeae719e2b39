import Derived.Test.YtonmoidalkcmoaaCLBase
import Derived.ProofKit
import Derived.OpenShut
import Derived.SizedLaws
import Derived.JoinedCond
import Derived.Test.YtonmoidalkcmoaaCZMx
import Derived.Test.YtonmoidalkcmoaaCIBas
import Derived.Deep.SlicePairs
namespace Go.Proofs.Ytonmoidalkcmoaa
open Go.ChangeShapes Go.WideShapes Go.ChangeAt Go.RowKit
theorem Try.own : ownKnob Try.prog.godebug = none := by kernel_rfl
theorem Try.laidOut : laidOutB Try.prog = true := by kernel_rfl
theorem Try.cells5 : Try.prog.cellsOf 5 = 1 := by kernel_rfl
theorem Try.bytes5 : Try.prog.bytesOf 5 = 1 := by kernel_rfl
theorem int_wf {z : Int} (h : (Lit.int .i64 z).wf = true) : -9223372036854775808 ≤ z ∧ z ≤ 9223372036854775807 := by
  have h1 : IntKind.i64.min = -9223372036854775808 := rfl
  have h2 : IntKind.i64.max = 9223372036854775807 := rfl
  simp only [Lit.wf, Bool.and_eq_true, decide_eq_true_eq] at h
  omega
theorem byte_wf {z : Int} (h : (Lit.int .u8 z).wf = true) : 0 ≤ z ∧ z ≤ 255 := by
  simpa [Lit.wf, IntKind.min, IntKind.max, IntKind.signed, IntKind.bits] using h
theorem bulk_lits {H : Type} (k : IntKind) (zs : List Int) : Rows.uptoBulkAll (lits (H := H) k zs) = zs.length := by
  induction zs with
  | nil => rfl
  | cons z zs ih =>
    have e : lits (H := H) k (z :: zs) = .lit (.int k z) :: lits k zs := rfl
    rw [e]
    simp only [Rows.uptoBulkAll, Rows.uptoBulk, ih, List.length_cons]
    omega

/-- a slice of bytes that is handed in, or lies in what is -/
theorem bytes_cells {H : Type} {enc : TypeId × Value → H} {W : World} {fuel : Nat} {cs : List Value} {d : DataW H} {p : List MemPlace}
    (hf : DataW.trod enc Try.prog W 0 (fun _ => true) true fuel 25 cs = some (d, p)) (hlt : ∀ x ∈ p, x.block < W.heap.size) :
    ∃ (a0 : Option Addr) (cap : Nat) (zs : List Int), cs = [.slice a0 zs.length cap] ∧ zs.length ≤ cap ∧ (∀ z ∈ zs, 0 ≤ z ∧ z ≤ 255) ∧ Reads W a0 zs W.heap.size ∧ (d = .nil ∧ zs = [] ∨ ∃ sp, d = .slice (lits .u8 zs) (lits .u8 sp)) := by
  rcases open_ints Try.underlying25 Try.underlying5 Try.cells5 hf with ⟨hcs, hx⟩ | ⟨a, len, cap, zs, hcs, _, hl, hm, hz, hx, hcell, hwz⟩
  · simp only [Prod.mk.injEq] at hx
    exact ⟨none, 0, [], hcs, by simp, by simp, Reads.nil _ _ _, .inl ⟨hx.1, rfl⟩⟩
  · simp only [Prod.mk.injEq] at hx
    obtain ⟨rfl, rfl⟩ := hx
    simp only [if_true] at hz
    have hlz : (zs.take len).length = len := by simp; omega
    refine ⟨some a, cap, zs.take len, by rw [hlz]; exact hcs, by rw [hlz]; exact hl, fun z hz' => byte_wf (hwz z (List.mem_of_mem_take hz')), fun hpos => ?_, .inr ⟨_, rfl⟩⟩
    obtain ⟨b, off, spot⟩ := a
    have hspot : spot = none := by simpa [Addr.add] using World.cell?_spot (hcell 0 (by omega))
    subst hspot
    have hbW : b < W.heap.size := hlt (.cell b off) (MemPlace.mem_row.2 ⟨0, by omega, by simp⟩)
    refine ⟨b, off, rfl, hbW, fun j hj => ?_⟩
    rw [hlz] at hj
    rw [← add_plain, hcell j (by omega)]
    simp [hj]
theorem bytes_open {H : Type} {enc : TypeId × Value → H} {W : World} {a0 : Option Addr} {len cap : Nat} {d : DataW H} {p : List MemPlace}
    (h : DataW.Trod enc Try.prog W 0 (fun _ => true) true 25 (.slice a0 len cap) d p) (hlt : ∀ x ∈ p, x.block < W.heap.size) :
    ∃ zs : List Int, zs.length = len ∧ zs.length ≤ cap ∧ (∀ z ∈ zs, 0 ≤ z ∧ z ≤ 255) ∧ Reads W a0 zs W.heap.size ∧ (d = .nil ∧ zs = [] ∨ ∃ sp, d = .slice (lits .u8 zs) (lits .u8 sp)) := by
  obtain ⟨fuel, hf⟩ := h
  obtain ⟨a, c, zs, hcs, hcp, h1, h2, h3⟩ := bytes_cells hf hlt
  simp [Value.cells] at hcs
  obtain ⟨rfl, rfl, rfl⟩ := hcs
  exact ⟨zs, rfl, hcp, h1, h2, h3⟩
theorem quad_wf {z : Int} (h : (Lit.int .u64 z).wf = true) : 0 ≤ z ∧ z < 18446744073709551616 := by
  have h1 : IntKind.u64.min = 0 := rfl
  have h2 : IntKind.u64.max = 18446744073709551615 := rfl
  simp only [Lit.wf, Bool.and_eq_true, decide_eq_true_eq] at h
  omega
theorem word_wf {z : Int} (h : (Lit.int .u32 z).wf = true) : 0 ≤ z ∧ z ≤ 4294967295 := by
  simpa [Lit.wf, IntKind.min, IntKind.max, IntKind.signed, IntKind.bits] using h
theorem weightsAll_mem {H : Type} {P : Program} {e : TypeId} : ∀ {l : List (DataW H)} {d : DataW H}, d ∈ l → ∀ n ∈ d.weights P e, n ∈ DataW.weightsAll P e l
  | d' :: r, d, hd, n, hn => by
    simp only [DataW.weightsAll, List.mem_append]
    rcases List.mem_cons.1 hd with rfl | h
    · exact Or.inl hn
    · exact Or.inr (weightsAll_mem h n hn)
theorem lits_len {H : Type} (k : IntKind) (zs : List Int) : (lits (H := H) k zs).length = zs.length := by simp [lits]
theorem Try.cellsD : Try.prog.cellsOf 23 = 1 := by kernel_rfl
theorem words_open {H : Type} {enc : TypeId × Value → H} {W : World} {a0 : Option Addr} {len cap : Nat} {d : DataW H} {p : List MemPlace}
    (h : DataW.Trod enc Try.prog W 0 (fun _ => true) true 24 (.slice a0 len cap) d p) (hlt : ∀ x ∈ p, x.block < W.heap.size) :
    ∃ zs : List Int, zs.length = len ∧ zs.length ≤ cap ∧ (∀ z ∈ zs, 0 ≤ z ∧ z < 4294967296) ∧ ReadsK W .u32 a0 zs W.heap.size ∧ (d = .nil ∧ zs = [] ∨ ∃ sp, d = .slice (lits .u32 zs) (lits .u32 sp)) := by
  obtain ⟨fuel, hf⟩ := h
  rcases open_ints Try.underlying24 Try.underlying23 Try.cellsD hf with ⟨hcs, hx⟩ | ⟨a, len', cap', zs, hcs, _, hl, hm, hz, hx, hcell, hwz⟩
  · simp [Value.cells] at hcs
    obtain ⟨rfl, rfl, rfl⟩ := hcs
    simp only [Prod.mk.injEq] at hx
    exact ⟨[], rfl, by simp, by simp, fun h => by simp at h, .inl ⟨hx.1, rfl⟩⟩
  · simp [Value.cells] at hcs
    obtain ⟨rfl, rfl, rfl⟩ := hcs
    simp only [Prod.mk.injEq] at hx
    obtain ⟨rfl, rfl⟩ := hx
    simp only [if_true] at hz
    have hlz : (zs.take len).length = len := by simp; omega
    refine ⟨zs.take len, hlz, by rw [hlz]; exact hl, fun z hz' => by have := word_wf (hwz z (List.mem_of_mem_take hz')); omega, fun hpos => ?_, .inr ⟨_, rfl⟩⟩
    obtain ⟨b, off, spot⟩ := a
    have hspot : spot = none := by simpa [Addr.add] using World.cell?_spot (hcell 0 (by omega))
    subst hspot
    have hbW : b < W.heap.size := hlt (.cell b off) (MemPlace.mem_row.2 ⟨0, by omega, by simp⟩)
    refine ⟨b, off, rfl, hbW, fun j hj => ?_⟩
    rw [hlz] at hj
    rw [← add_plain, hcell j (by omega)]
    simp [hj]
set_option maxRecDepth 100000
theorem Try.bytesD : Try.prog.bytesOf 23 = 4 := by kernel_rfl
theorem toNat_getD {zs : List Int} {j : Nat} (h : j < zs.length) (hz : ∀ z ∈ zs, 0 ≤ z) : (((zs.map Int.toNat).getD j 0 : Nat) : Int) = zs.getD j 0 := by
  rw [List.getD_eq_getElem?_getD, List.getD_eq_getElem?_getD, List.getElem?_map, List.getElem?_eq_getElem h]
  exact Int.toNat_of_nonneg (hz _ (List.getElem_mem h))
theorem fmeans_int (ao : Option Addr) (cap a e : Nat) (L : List (Nat × Nat)) (oo : Option Addr) (co : Nat) (zs : List Int) (ro : Option Addr) (rc : Nat) (ys : List Int) (sp : Nat) (w : World)
    (hn : L.length * 8 ≤ 140737488355328) (hcap : L.length ≤ cap) (ha : a < 4294967296) (he : e < 4294967296) (hwf : Wfc L) (hr : CRd w ao L w.heap.size)
    (hol : zs.length * 4 ≤ 140737488351232) (hzw : ∀ z ∈ zs, 0 ≤ z ∧ z < 4294967296) (hzr : ReadsK w .u32 oo zs w.heap.size) (hyw : ∀ z ∈ ys, 0 ≤ z ∧ z ≤ 255) (hyr : Reads w ro ys w.heap.size) :
    Calls Try.prog 3 #[.slice ao L.length cap, .int .u32 (a : Int), .int .u32 (e : Int), .slice oo zs.length co, .slice ro ys.length rc, .int .u32 (sp : Int)] w fun x w' => x = .returned (.bool true) ∧ Below w.heap.size w w' := by
  have h1 : (zs.map Int.toNat).length = zs.length := List.length_map ..
  have h2 : (ys.map Int.toNat).length = ys.length := List.length_map ..
  have := fmeans_law ao cap a e L oo co (zs.map Int.toNat) ro rc (ys.map Int.toNat) sp w hn hcap ha he hwf hr (by omega)
    (fun x hx => by
      obtain ⟨z, hz, rfl⟩ := List.mem_map.1 hx
      have := hzw z hz
      omega)
    (fun hp => by
      obtain ⟨b, off, e1, e2, e3⟩ := hzr (by omega)
      exact ⟨b, off, e1, e2, fun j hj => by rw [toNat_getD (by omega) (fun z hz => (hzw z hz).1)]; exact e3 j (by omega)⟩)
    (fun x hx => by
      obtain ⟨z, hz, rfl⟩ := List.mem_map.1 hx
      have := hyw z hz
      omega)
    (fun hp => by
      obtain ⟨b, off, e1, e2, e3⟩ := hyr (by omega)
      exact ⟨b, off, e1, e2, fun j hj => by rw [toNat_getD (by omega) (fun z hz => (hyw z hz).1)]; exact e3 j (by omega)⟩)
  rwa [h1, h2] at this
theorem Try.cellsI2 : Try.prog.cellsOf 36 = 2 := by kernel_rfl
theorem Try.cellsO1 : Try.prog.cellsOf 28 = 1 := by kernel_rfl
theorem Try.cellsD1 : Try.prog.cellsOf 23 = 1 := by kernel_rfl
theorem Try.bytesI : Try.prog.bytesOf 36 = 8 := by kernel_rfl
theorem bulk_mem {H : Type} : ∀ {l : List (DataW H)} {d : DataW H}, d ∈ l → Rows.uptoBulk d ≤ Rows.uptoBulkAll l
  | d' :: r, d, hd => by
    simp only [Rows.uptoBulkAll]
    rcases List.mem_cons.1 hd with rfl | h
    · omega
    · have := bulk_mem h; omega
theorem bulk_len {H : Type} : ∀ (l : List (DataW H)), (∀ d ∈ l, 1 ≤ Rows.uptoBulk d) → l.length ≤ Rows.uptoBulkAll l
  | [], _ => by simp [Rows.uptoBulkAll]
  | d :: r, h => by
    have h1 := h d (by simp)
    have h2 := bulk_len r (fun x hx => h x (by simp [hx]))
    simp only [Rows.uptoBulkAll, List.length_cons]
    omega
theorem code_open {H : Type} {enc : TypeId × Value → H} {W : World} {a0 : Option Addr} {len cap : Nat} {d : DataW H} {p : List MemPlace}
    (h : DataW.Trod enc Try.prog W 0 (fun _ => true) true 22 (.slice a0 len cap) d p) (hlt : ∀ x ∈ p, x.block < W.heap.size) :
    ∃ L : List (Nat × Nat), L.length = len ∧ Wfc L ∧ CRd W a0 L W.heap.size ∧ (d = .nil ∧ L = [] ∨ ∃ l sp, d = .slice l sp ∧ l.length = L.length ∧ ∀ x ∈ l, 1 ≤ Rows.uptoBulk x) := by
  obtain ⟨fuel, hf⟩ := h
  rcases Go.Deep.open_slice_pairs Try.underlying22 Try.underlying36 Try.cellsI2 rfl rfl Try.cellsO1 Try.cellsD1 hf with ⟨hcs, hx⟩ | ⟨a, len', cap', m, n, V0, V1, D0, D1, P0, P1, hcs, _, hl, hm, hz, hx, hcell⟩
  · simp only [Prod.mk.injEq] at hx
    simp [Value.cells] at hcs
    obtain ⟨rfl, rfl, rfl⟩ := hcs
    exact ⟨[], rfl, fun p hp => by simp at hp, fun hp => by simp at hp, .inl ⟨hx.1, rfl⟩⟩
  · simp only [Prod.mk.injEq] at hx
    obtain ⟨rfl, rfl⟩ := hx
    simp [Value.cells] at hcs
    obtain ⟨rfl, rfl, rfl⟩ := hcs
    simp only [if_true] at hz
    subst hz
    have each : ∀ i, i < len → ∃ q : Nat × Nat, V0 i = .int .u8 q.1 ∧ V1 i = .int .u32 q.2 ∧ q.1 < 256 ∧ q.2 < 4294967296 := by
      intro i hi
      obtain ⟨_, _, g0, g1⟩ := hcell i (by omega)
      obtain ⟨s, e0, _, w0⟩ := DataW.trod_int Try.underlying28 g0
      obtain ⟨u, e1, _, w1⟩ := DataW.trod_int Try.underlying23 g1
      simp at e0 e1
      have h0 := byte_wf w0
      have h1 := word_wf w1
      exact ⟨(s.toNat, u.toNat), by rw [e0]; simp only []; rw [Int.toNat_of_nonneg h0.1], by rw [e1]; simp only []; rw [Int.toNat_of_nonneg h1.1], by simp only []; omega, by simp only []; omega⟩
    obtain ⟨f, hfx⟩ : ∃ f : Nat → Nat × Nat, ∀ i, i < len → V0 i = .int .u8 (f i).1 ∧ V1 i = .int .u32 (f i).2 ∧ (f i).1 < 256 ∧ (f i).2 < 4294967296 :=
      ⟨fun i => if hi : i < len then (each i hi).choose else (0, 0), fun i hi => by simp only [hi, dite_true]; exact (each i hi).choose_spec⟩
    have hgd : ∀ j, j < len → ((List.range len).map f).getD j (0, 0) = f j := fun j hj => by simp [hj]
    refine ⟨(List.range len).map f, by simp, ?_, ?_, .inr ⟨_, _, rfl, by simp, ?_⟩⟩
    · intro p hp
      obtain ⟨i, hi, rfl⟩ := List.mem_map.1 hp
      exact (hfx i (List.mem_range.1 hi)).2.2
    · intro hpos
      simp at hpos
      obtain ⟨b, off, spot⟩ := a
      have hspot : spot = none := by simpa [Addr.add] using World.cell?_spot (hcell 0 (by omega)).1
      subst hspot
      have hbW : b < W.heap.size := hlt (.cell b off) (List.mem_append_left _ (MemPlace.mem_row.2 ⟨0, by omega, by simp⟩))
      refine ⟨b, off, rfl, hbW, fun j hj => ?_⟩
      simp at hj
      obtain ⟨c0, c1, _, _⟩ := hcell j (by omega)
      obtain ⟨e0, e1, _, _⟩ := hfx j hj
      rw [add_plain] at c0 c1
      rw [hgd j hj]
      exact ⟨by rw [c0, e0], by rw [Nat.add_assoc, c1, e1]⟩
    · intro x hx
      obtain ⟨i, _, rfl⟩ := List.mem_map.1 hx
      simp only [Rows.uptoBulk, Rows.uptoBulkAll]
      omega
end Go.Proofs.Ytonmoidalkcmoaa
