import Derived.Test.YtacfiecobdbjaaaLNumS
import Derived.Test.YtacfiecobdbjaaaLOpenQ
import Derived.Deep.Slices
import Derived.ChangeSame
namespace Go.Proofs.Ytacfiecobdbjaaa
open Go.ChangeShapes Go.WideShapes Go.ChangeAt Go.RowKit

theorem Try.cellsOp : Try.prog.cellsOf 29 = 6 := by kernel_rfl
theorem Try.cells3 : Try.prog.cellsOf 3 = 1 := by kernel_rfl
theorem Try.cellsB : Try.prog.cellsOf 26 = 1 := by kernel_rfl
theorem Try.cellsL : Try.prog.cellsOf 25 = 1 := by kernel_rfl
theorem bulk_mem {H : Type} : ∀ {l : List (DataW H)} {d : DataW H}, d ∈ l → Rows.uptoBulk d ≤ Rows.uptoBulkAll l
  | d' :: r, d, hd => by
    simp only [Rows.uptoBulkAll]
    rcases List.mem_cons.1 hd with rfl | h
    · omega
    · have := bulk_mem h; omega
theorem bulk_pos {H : Type} (d : DataW H) : 1 ≤ Rows.uptoBulk d := by
  cases d with
  | lit l => cases l <;> simp [Rows.uptoBulk]
  | nil => simp [Rows.uptoBulk]
  | ptr d => simp [Rows.uptoBulk]
  | slice a b => simp [Rows.uptoBulk]
  | agg a => simp [Rows.uptoBulk]
  | iface a b => simp [Rows.uptoBulk]
  | map a => simp [Rows.uptoBulk]
  | held a => simp [Rows.uptoBulk]
theorem bulk_len1 {H : Type} : ∀ (l : List (DataW H)), l.length ≤ Rows.uptoBulkAll l
  | [] => by simp [Rows.uptoBulkAll]
  | d :: r => by
    have h1 := bulk_pos d
    have h2 := bulk_len1 r
    simp only [Rows.uptoBulkAll, List.length_cons]
    omega
theorem quads_cells {H : Type} {enc : TypeId × Value → H} {W : World} {fuel : Nat} {cs : List Value} {d : DataW H} {p : List MemPlace}
    (hf : DataW.trod enc Try.prog W 0 (fun _ => true) true fuel 25 cs = some (d, p)) (hlt : ∀ x ∈ p, x.block < W.heap.size) :
    ∃ (a0 : Option Addr) (cap : Nat) (zs : List Int), cs = [.slice a0 zs.length cap] ∧ (a0 = none → zs = [] ∧ cap = 0) ∧ (∀ z ∈ zs, 0 ≤ z ∧ z < 18446744073709551616) ∧ ReadsK W .u64 a0 zs W.heap.size ∧ zs.length + 1 ≤ Rows.uptoBulk d := by
  rcases open_ints Try.underlying25 Try.underlying27 Try.cellsQ hf with ⟨hcs, hx⟩ | ⟨a, len, cap, zs, hcs, _, hl, hm, hz, hx, hcell, hwz⟩
  · simp only [Prod.mk.injEq] at hx
    obtain ⟨rfl, _⟩ := hx
    exact ⟨none, 0, [], hcs, fun _ => ⟨rfl, rfl⟩, by simp, fun h => by simp at h, by simp [Rows.uptoBulk]⟩
  · simp only [Prod.mk.injEq] at hx
    obtain ⟨rfl, rfl⟩ := hx
    simp only [if_true] at hz
    have hlz : (zs.take len).length = len := by simp; omega
    refine ⟨some a, cap, zs.take len, by rw [hlz]; exact hcs, (fun h => by cases h), fun z hz' => quad_wf (hwz z (List.mem_of_mem_take hz')), fun hpos => ?_, ?_⟩
    · obtain ⟨b, off, spot⟩ := a
      have hspot : spot = none := by simpa [Addr.add] using World.cell?_spot (hcell 0 (by omega))
      subst hspot
      have hbW : b < W.heap.size := hlt (.cell b off) (MemPlace.mem_row.2 ⟨0, by omega, by simp⟩)
      refine ⟨b, off, rfl, hbW, fun j hj => ?_⟩
      rw [hlz] at hj
      rw [← add_plain, hcell j (by omega)]
      simp [hj]
    · simp only [Rows.uptoBulk, bulk_lits]; omega

theorem nop_open {H : Type} {enc : TypeId × Value → H} {W : World} {n b o : Nat} {cs : List Value} {d : DataW H} {p : List MemPlace}
    (hc : W.cells? 0 ⟨b, o, none⟩ 6 = some cs) (h : DataW.trod enc Try.prog W 0 (fun _ => true) true n 29 cs = some (d, p)) (hlt : ∀ x ∈ p, x.block < W.heap.size)
    (hw : Rows.uptoBulk d ≤ 1048576) : ∃ x : NOp, x.At W b o ∧ x.Ok W := by
  obtain ⟨_, hlen, hcell⟩ := World.cells?_some hc
  obtain ⟨xs, k, hk, hxy, _, hxl, hf⟩ := DataW.trod_struct Try.underlying29 h
  match xs, hxl, cs, hlen with
  | [y0, y1, y2, y3, y4, y5], _, [v0, v1, v2, v3, v4, v5], _ =>
    have g0 := hf 0 _ rfl
    have g1 := hf 1 _ rfl
    have g2 := hf 2 _ rfl
    have g3 := hf 3 _ rfl
    have g4 := hf 4 _ rfl
    have g5 := hf 5 _ rfl
    simp [Try.cells3, Try.cellsQ, Try.cellsL, Try.cellsB] at g0 g1 g2 g3 g4 g5
    have e0 := hcell 0 (by omega)
    have e1 := hcell 1 (by omega)
    have e2 := hcell 2 (by omega)
    have e3 := hcell 3 (by omega)
    have e4 := hcell 4 (by omega)
    have e5 := hcell 5 (by omega)
    simp [add_plain] at e0 e1 e2 e3 e4 e5
    simp only [Prod.mk.injEq] at hxy
    obtain ⟨hd, hp⟩ := hxy
    obtain ⟨d2, p2⟩ := y2
    obtain ⟨d3, p3⟩ := y3
    obtain ⟨C, hv0, _, _⟩ := DataW.trod_int Try.underlying3 g0
    obtain ⟨Wd, hv1, _, _⟩ := DataW.trod_int Try.underlying3 g1
    obtain ⟨no, nc, ns, hv2, hnn, hnw, hnr, hnb⟩ := quads_cells g2 (fun x hx => hlt x (by rw [hp]; simp [hx]))
    obtain ⟨oo, oc, zs, hv3, _, hzw, hzr, hdd⟩ := bytes_cells g3 (fun x hx => hlt x (by rw [hp]; simp [hx]))
    obtain ⟨A, hv4, _, hA⟩ := DataW.trod_int Try.underlying3 g4
    obtain ⟨X, hv5, _, hX⟩ := DataW.trod_int Try.underlying27 g5
    simp only [List.cons.injEq, and_true] at hv0 hv1 hv2 hv3 hv4 hv5
    subst hv0 hv1 hv2 hv3 hv4 hv5
    have hzb : zs.length + 1 ≤ Rows.uptoBulk d3 := by
      rcases hdd with ⟨rfl, rfl⟩ | ⟨sp, rfl⟩
      · simp [Rows.uptoBulk]
      · simp only [Rows.uptoBulk, bulk_lits]; omega
    rw [hd] at hw
    simp only [Rows.uptoBulk, Rows.uptoBulkAll, List.map_cons, List.map_nil] at hw
    exact ⟨⟨C, Wd, no, nc, ns, oo, oc, zs, A, X⟩, ⟨e0, e1, e2, e3, e4, e5⟩, ⟨by show ns.length ≤ 1048575; omega, by show zs.length ≤ 1048576; omega, hnw, hzw, hnn, hnr, hzr, int_wf hA, quad_wf hX⟩⟩

theorem nscript_open {H : Type} {enc : TypeId × Value → H} {W : World} {a0 : Option Addr} {len cap : Nat} {d : DataW H} {p : List MemPlace}
    (h : DataW.Trod enc Try.prog W 0 (fun _ => true) true 22 (.slice a0 len cap) d p) (hlt : ∀ x ∈ p, x.block < W.heap.size)
    (hw : Rows.uptoBulk d ≤ 1048576) : len ≤ 1048576 ∧ ∃ S, NScript W a0 len S := by
  obtain ⟨fuel, hf⟩ := h
  rcases Go.Deep.open_slice Try.underlying22 hf with ⟨hcs, hx⟩ | ⟨a, len', cap', m, n, D, Pl, hcs, _, hl, hm, hmm, hx, hel⟩
  · simp [Value.cells] at hcs
    obtain ⟨rfl, rfl, rfl⟩ := hcs
    exact ⟨by omega, fun _ => ⟨0, 0, none, 0, [], none, 0, [], 0, 0⟩, fun i hi => absurd hi (Nat.not_lt_zero _)⟩
  · simp [Value.cells] at hcs
    obtain ⟨rfl, rfl, rfl⟩ := hcs
    simp only [Prod.mk.injEq] at hx
    obtain ⟨rfl, rfl⟩ := hx
    simp only [if_true] at hmm
    subst hmm
    rw [Try.cellsOp] at hel hlt
    simp only [Rows.uptoBulk] at hw
    have hlen : len ≤ 1048576 := by
      have h1 := bulk_len1 ((List.range len).map D)
      simp only [List.length_map, List.length_range] at h1
      omega
    refine ⟨hlen, ?_⟩
    have each : ∀ i, i < len → ∃ x : NOp, ∃ b off, some a = some (⟨b, off, none⟩ : Addr) ∧ b < W.heap.size ∧ x.At W b (off + i * 6) ∧ x.Ok W := by
      intro i hi
      obtain ⟨cs', h1, h2⟩ := hel i (by omega)
      obtain ⟨b, off, spot⟩ := a
      have hspot : spot = none := by
        obtain ⟨cs0, h10, _⟩ := hel 0 (by omega)
        have hc0 := (World.cells?_some h10).2.2 0 (by omega)
        have hl' : cs0.length = 6 := (World.cells?_some h10).2.1
        rw [List.getElem?_eq_getElem (by omega)] at hc0
        have := World.cell?_spot hc0
        simpa [Addr.add] using this
      subst hspot
      rw [add_plain] at h1
      have hbW : b < W.heap.size := hlt (.cell b off) (List.mem_append_left _ (MemPlace.mem_row.2 ⟨0, by omega, by simp⟩))
      have hbd := bulk_mem (H := H) (l := (List.range len).map D) (d := D i) (List.mem_map.2 ⟨i, List.mem_range.2 hi, rfl⟩)
      obtain ⟨x, hx1, hx2⟩ := nop_open h1 h2 (fun y hy => hlt y (List.mem_append_right _ (List.mem_flatMap.2 ⟨i, List.mem_range.2 (by omega), hy⟩))) (by omega)
      exact ⟨x, b, off, rfl, hbW, hx1, hx2⟩
    haveI : Inhabited NOp := ⟨⟨0, 0, none, 0, [], none, 0, [], 0, 0⟩⟩
    obtain ⟨S, hS⟩ := Go.Deep.choose_lt each
    exact ⟨S, hS⟩
end Go.Proofs.Ytacfiecobdbjaaa
