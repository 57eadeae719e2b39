import Derived.Test.YtbaigjckimpkmaaNWi
import Derived.Test.YtbaigjckimpkmaaLOpen
import Derived.Deep.Slices
import Derived.ChangeSame
namespace Go.Proofs.Ytbaigjckimpkmaa
open Go.ChangeShapes Go.WideShapes Go.ChangeAt Go.RowKit
set_option maxRecDepth 100000

theorem Try.cellsOp : Try.prog.cellsOf 34 = 10 := by kernel_rfl
theorem Try.cells3 : Try.prog.cellsOf 3 = 1 := by kernel_rfl
theorem Try.cellsD : Try.prog.cellsOf 25 = 1 := by kernel_rfl
theorem Try.cellsB : Try.prog.cellsOf 32 = 1 := by kernel_rfl
theorem Try.cellsLD : Try.prog.cellsOf 31 = 1 := by kernel_rfl
theorem Try.cellsLS : Try.prog.cellsOf 30 = 1 := by kernel_rfl
theorem Try.cellsSp : Try.prog.cellsOf 27 = 2 := by kernel_rfl
theorem bulk_mem {H : Type} : ∀ {l : List (DataW H)} {d : DataW H}, d ∈ l → Rows.uptoBulk d ≤ Rows.uptoBulkAll l
  | d' :: r, d, hd => by
    simp only [Rows.uptoBulkAll]
    rcases List.mem_cons.1 hd with rfl | h
    · omega
    · have := bulk_mem h; omega
theorem bulk_pos {H : Type} (d : DataW H) : 1 ≤ Rows.uptoBulk d := by
  cases d with
  | lit l => cases l <;> simp [Rows.uptoBulk]
  | nil => simp [Rows.uptoBulk]
  | ptr d => simp [Rows.uptoBulk]
  | slice a b => simp [Rows.uptoBulk]
  | agg a => simp [Rows.uptoBulk]
  | iface a b => simp [Rows.uptoBulk]
  | map a => simp [Rows.uptoBulk]
  | held a => simp [Rows.uptoBulk]
theorem bulk_len1 {H : Type} : ∀ (l : List (DataW H)), l.length ≤ Rows.uptoBulkAll l
  | [] => by simp [Rows.uptoBulkAll]
  | d :: r => by
    have h1 := bulk_pos d
    have h2 := bulk_len1 r
    simp only [Rows.uptoBulkAll, List.length_cons]
    omega
theorem words_cells {H : Type} {enc : TypeId × Value → H} {W : World} {fuel : Nat} {cs : List Value} {d : DataW H} {p : List MemPlace}
    (hf : DataW.trod enc Try.prog W 0 (fun _ => true) true fuel 31 cs = some (d, p)) (hlt : ∀ x ∈ p, x.block < W.heap.size) :
    ∃ (a0 : Option Addr) (cap : Nat) (J : List Nat), cs = [.slice a0 J.length cap] ∧ (∀ z ∈ J, z < 4294967296) ∧ JRd W a0 J W.heap.size ∧ J.length + 1 ≤ Rows.uptoBulk d := by
  rcases open_ints Try.underlying31 Try.underlying25 Try.cellsD hf with ⟨hcs, hx⟩ | ⟨a, len, cap, zs, hcs, _, hl, hm, hz, hx, hcell, hwz⟩
  · simp only [Prod.mk.injEq] at hx
    obtain ⟨rfl, _⟩ := hx
    exact ⟨none, 0, [], hcs, by simp, fun h => by simp at h, by simp [Rows.uptoBulk]⟩
  · simp only [Prod.mk.injEq] at hx
    obtain ⟨rfl, rfl⟩ := hx
    simp only [if_true] at hz
    have hlz : (nz (zs.take len)).length = len := by rw [nz_len]; simp; omega
    have hwf : ∀ z ∈ zs.take len, 0 ≤ z ∧ z < 4294967296 := fun z hz' => by have := word_wf (hwz z (List.mem_of_mem_take hz')); omega
    refine ⟨some a, cap, nz (zs.take len), by rw [hlz]; exact hcs, fun z hz' => ?_, fun hpos => ?_, ?_⟩
    · obtain ⟨y, hy, rfl⟩ := List.mem_map.1 hz'
      have := hwf y hy
      omega
    · obtain ⟨b, off, spot⟩ := a
      have hspot : spot = none := by simpa [Addr.add] using World.cell?_spot (hcell 0 (by omega))
      subst hspot
      have hbW : b < W.heap.size := hlt (.cell b off) (MemPlace.mem_row.2 ⟨0, by omega, by simp⟩)
      refine ⟨b, off, rfl, hbW, fun j hj => ?_⟩
      rw [hlz] at hj
      have hg := (nz_get hwf (k := j) (by rw [← nz_len, hlz]; exact hj)).1
      rw [← hg, ← add_plain, hcell j (by omega)]
      simp [hj]
    · rw [hlz]; simp only [Rows.uptoBulk, bulk_lits]
      rw [nz_len] at hlz
      omega
theorem span_cells {H : Type} {enc : TypeId × Value → H} {W : World} {fuel : Nat} {cs : List Value} {x : DataW H × List MemPlace}
    (h : DataW.trod enc Try.prog W 0 (fun _ => true) true fuel 27 cs = some x) : ∃ p : Nat × Nat, cs = [.int .u32 p.1, .int .u32 p.2] ∧ p.1 < 4294967296 ∧ p.2 < 4294967296 := by
  obtain ⟨xs, k, hk, hxy, hcl, hxl, hf⟩ := DataW.trod_struct Try.underlying27 h
  rw [Try.cellsSp] at hcl
  match xs, hxl, cs, hcl with
  | [y0, y1], _, [v0, v1], _ =>
    have g0 := hf 0 _ rfl
    have g1 := hf 1 _ rfl
    simp [Try.cellsD] at g0 g1
    obtain ⟨z0, e0, _, w0⟩ := DataW.trod_int Try.underlying25 g0
    obtain ⟨z1, e1, _, w1⟩ := DataW.trod_int Try.underlying25 g1
    simp only [List.cons.injEq, and_true] at e0 e1
    subst e0 e1
    have h0 := word_wf w0
    have h1 := word_wf w1
    exact ⟨(z0.toNat, z1.toNat), by simp only; rw [Int.toNat_of_nonneg h0.1, Int.toNat_of_nonneg h1.1], by simp only; omega, by simp only; omega⟩
theorem spans_cells {H : Type} {enc : TypeId × Value → H} {W : World} {fuel : Nat} {cs : List Value} {d : DataW H} {p : List MemPlace}
    (hf : DataW.trod enc Try.prog W 0 (fun _ => true) true fuel 30 cs = some (d, p)) (hlt : ∀ x ∈ p, x.block < W.heap.size) :
    ∃ (a0 : Option Addr) (cap : Nat) (L : List (Nat × Nat)), cs = [.slice a0 L.length cap] ∧ Wfs L ∧ SRd W a0 L W.heap.size ∧ L.length + 1 ≤ Rows.uptoBulk d := by
  rcases Go.Deep.open_slice Try.underlying30 hf with ⟨hcs, hx⟩ | ⟨a, len, cap, m, n, D, Pl, hcs, _, hl, hm, hmm, hx, hel⟩
  · simp only [Prod.mk.injEq] at hx
    obtain ⟨rfl, _⟩ := hx
    exact ⟨none, 0, [], hcs, fun p hp => by simp at hp, fun h => by simp at h, by simp [Rows.uptoBulk]⟩
  · simp only [Prod.mk.injEq] at hx
    obtain ⟨rfl, rfl⟩ := hx
    simp only [if_true] at hmm
    subst hmm
    rw [Try.cellsSp] at hel hlt
    have each : ∀ i, i < len → ∃ q : Nat × Nat, ∃ b off, some a = some (⟨b, off, none⟩ : Addr) ∧ b < W.heap.size ∧ (W.cell? ⟨b, off + i * 2, none⟩ = some (.int .u32 q.1) ∧ W.cell? ⟨b, off + i * 2 + 1, none⟩ = some (.int .u32 q.2)) ∧ q.1 < 4294967296 ∧ q.2 < 4294967296 := by
      intro i hi
      obtain ⟨cs', h1, h2⟩ := hel i (by omega)
      obtain ⟨b, off, spot⟩ := a
      have hspot : spot = none := by
        obtain ⟨cs0, h10, _⟩ := hel 0 (by omega)
        have hc0 := (World.cells?_some h10).2.2 0 (by omega)
        have hl' : cs0.length = 2 := (World.cells?_some h10).2.1
        rw [List.getElem?_eq_getElem (by omega)] at hc0
        have := World.cell?_spot hc0
        simpa [Addr.add] using this
      subst hspot
      rw [add_plain] at h1
      have hbW : b < W.heap.size := hlt (.cell b off) (List.mem_append_left _ (MemPlace.mem_row.2 ⟨0, by omega, by simp⟩))
      obtain ⟨q, rfl, hq1, hq2⟩ := span_cells h2
      obtain ⟨_, _, hcell⟩ := World.cells?_some h1
      have e0 := hcell 0 (by omega)
      have e1 := hcell 1 (by omega)
      simp [add_plain] at e0 e1
      exact ⟨q, b, off, rfl, hbW, ⟨e0, e1⟩, hq1, hq2⟩
    haveI : Inhabited (Nat × Nat) := ⟨(0, 0)⟩
    obtain ⟨S, hS⟩ := Go.Deep.choose_lt each
    have hL : ((List.range len).map S).length = len := by simp
    have hget : ∀ j, j < len → ((List.range len).map S).getD j (0, 0) = S j := fun j hj => by simp [List.getD_eq_getElem?_getD, hj]
    refine ⟨some a, _, (List.range len).map S, by rw [hL]; exact hcs, fun q hq => ?_, fun hpos => ?_, ?_⟩
    · obtain ⟨i, hi, rfl⟩ := List.mem_map.1 hq
      obtain ⟨_, _, _, _, _, h⟩ := hS i (List.mem_range.1 hi)
      exact h
    · rw [hL] at hpos
      obtain ⟨b, off, e, hbW, _, _⟩ := hS 0 hpos
      simp only [Option.some.injEq] at e
      subst e
      refine ⟨b, off, rfl, hbW, fun j hj => ?_⟩
      rw [hL] at hj
      obtain ⟨b2, off2, e2, _, hc, _⟩ := hS j hj
      simp only [Option.some.injEq, Addr.mk.injEq, and_true] at e2
      obtain ⟨rfl, rfl⟩ := e2
      rw [hget j hj]
      exact hc
    · rw [hL]
      simp only [Rows.uptoBulk]
      have h1 := bulk_len1 ((List.range len).map D)
      simp only [List.length_map, List.length_range] at h1
      omega
theorem sop_open {H : Type} {enc : TypeId × Value → H} {W : World} {n b o : Nat} {cs : List Value} {d : DataW H} {p : List MemPlace}
    (hc : W.cells? 0 ⟨b, o, none⟩ 10 = some cs) (h : DataW.trod enc Try.prog W 0 (fun _ => true) true n 34 cs = some (d, p)) (hlt : ∀ x ∈ p, x.block < W.heap.size)
    (hw : Rows.uptoBulk d ≤ 1048576) : ∃ x : SOp, x.At W b o ∧ x.Ok W := by
  obtain ⟨_, hlen, hcell⟩ := World.cells?_some hc
  obtain ⟨xs, k, hk, hxy, _, hxl, hf⟩ := DataW.trod_struct Try.underlying34 h
  match xs, hxl, cs, hlen with
  | [y0, y1, y2, y3, y4, y5, y6, y7], _, [v0, v1, v2, v3, v4, v5, v6, v7, v8, v9], _ =>
    have g0 := hf 0 _ rfl
    have g1 := hf 1 _ rfl
    have g2 := hf 2 _ rfl
    have g3 := hf 3 _ rfl
    have g4 := hf 4 _ rfl
    have g5 := hf 5 _ rfl
    have g6 := hf 6 _ rfl
    have g7 := hf 7 _ rfl
    simp [Try.cells3, Try.cellsD, Try.cellsLD, Try.cellsB, Try.cellsLS, Try.cellsSp] at g0 g1 g2 g3 g4 g5 g6 g7
    have e0 := hcell 0 (by omega)
    have e1 := hcell 1 (by omega)
    have e2 := hcell 2 (by omega)
    have e3 := hcell 3 (by omega)
    have e4 := hcell 4 (by omega)
    have e5 := hcell 5 (by omega)
    have e6 := hcell 6 (by omega)
    have e7 := hcell 7 (by omega)
    have e8 := hcell 8 (by omega)
    have e9 := hcell 9 (by omega)
    simp [add_plain] at e0 e1 e2 e3 e4 e5 e6 e7 e8 e9
    simp only [Prod.mk.injEq] at hxy
    obtain ⟨hd, hp⟩ := hxy
    obtain ⟨d4, p4⟩ := y4
    obtain ⟨d6, p6⟩ := y6
    obtain ⟨d7, p7⟩ := y7
    obtain ⟨C, hv0, _, _⟩ := DataW.trod_int Try.underlying3 g0
    obtain ⟨A, hv1, hA1, hA2⟩ := span_cells g1
    obtain ⟨B, hv2, hB1, hB2⟩ := span_cells g2
    obtain ⟨tt, hv3, _, ht⟩ := DataW.trod_int Try.underlying25 g3
    obtain ⟨so, sc, L, hv4, hLw, hLr, hLb⟩ := spans_cells g4 (fun x hx => hlt x (by rw [hp]; simp [hx]))
    obtain ⟨f, hv5, _, hf'⟩ := DataW.trod_int Try.underlying25 g5
    obtain ⟨jo, jc, J, hv6, hJw, hJr, hJb⟩ := words_cells g6 (fun x hx => hlt x (by rw [hp]; simp [hx]))
    obtain ⟨zo, zc, zs, hv7, _, hzw, hzr, hdd⟩ := bytes_cells g7 (fun x hx => hlt x (by rw [hp]; simp [hx]))
    simp only [List.cons.injEq, and_true] at hv0 hv1 hv2 hv3 hv4 hv5 hv6 hv7
    obtain ⟨rfl, rfl⟩ := hv1
    obtain ⟨rfl, rfl⟩ := hv2
    subst hv0 hv3 hv4 hv5 hv6 hv7
    have hzb : zs.length + 1 ≤ Rows.uptoBulk d7 := by
      rcases hdd with ⟨rfl, rfl⟩ | ⟨sp, rfl⟩
      · simp [Rows.uptoBulk]
      · simp only [Rows.uptoBulk, bulk_lits]; omega
    rw [hd] at hw
    simp only [Rows.uptoBulk, Rows.uptoBulkAll, List.map_cons, List.map_nil] at hw
    have h3 := word_wf ht
    have h5 := word_wf hf'
    rw [← Int.toNat_of_nonneg h3.1] at e5
    rw [← Int.toNat_of_nonneg h5.1] at e7
    exact ⟨⟨C, A.1, A.2, B.1, B.2, tt.toNat, so, sc, L, f.toNat, jo, jc, J, zo, zc, zs⟩, ⟨e0, e1, e2, e3, e4, e5, e6, e7, e8, e9⟩, ⟨⟨hA1, hA2⟩, ⟨hB1, hB2⟩, by show tt.toNat < _; omega, by show f.toNat < _; omega, by show L.length ≤ _; omega, hLw, hLr, by show J.length ≤ _; omega, hJw, hJr, by show zs.length ≤ _; omega, hzw, hzr⟩⟩
theorem sscript_open {H : Type} {enc : TypeId × Value → H} {W : World} {a0 : Option Addr} {len cap : Nat} {d : DataW H} {p : List MemPlace}
    (h : DataW.Trod enc Try.prog W 0 (fun _ => true) true 22 (.slice a0 len cap) d p) (hlt : ∀ x ∈ p, x.block < W.heap.size)
    (hw : Rows.uptoBulk d ≤ 1048576) : len ≤ 1048576 ∧ ∃ S, SScript W a0 len S := by
  obtain ⟨fuel, hf⟩ := h
  rcases Go.Deep.open_slice Try.underlying22 hf with ⟨hcs, hx⟩ | ⟨a, len', cap', m, n, D, Pl, hcs, _, hl, hm, hmm, hx, hel⟩
  · simp [Value.cells] at hcs
    obtain ⟨rfl, rfl, rfl⟩ := hcs
    exact ⟨by omega, fun _ => ⟨0, 0, 0, 0, 0, 0, none, 0, [], 0, none, 0, [], none, 0, []⟩, fun i hi => absurd hi (Nat.not_lt_zero _)⟩
  · simp [Value.cells] at hcs
    obtain ⟨rfl, rfl, rfl⟩ := hcs
    simp only [Prod.mk.injEq] at hx
    obtain ⟨rfl, rfl⟩ := hx
    simp only [if_true] at hmm
    subst hmm
    rw [Try.cellsOp] at hel hlt
    simp only [Rows.uptoBulk] at hw
    have hlen : len ≤ 1048576 := by
      have h1 := bulk_len1 ((List.range len).map D)
      simp only [List.length_map, List.length_range] at h1
      omega
    refine ⟨hlen, ?_⟩
    have each : ∀ i, i < len → ∃ x : SOp, ∃ b off, some a = some (⟨b, off, none⟩ : Addr) ∧ b < W.heap.size ∧ x.At W b (off + i * 10) ∧ x.Ok W := by
      intro i hi
      obtain ⟨cs', h1, h2⟩ := hel i (by omega)
      obtain ⟨b, off, spot⟩ := a
      have hspot : spot = none := by
        obtain ⟨cs0, h10, _⟩ := hel 0 (by omega)
        have hc0 := (World.cells?_some h10).2.2 0 (by omega)
        have hl' : cs0.length = 10 := (World.cells?_some h10).2.1
        rw [List.getElem?_eq_getElem (by omega)] at hc0
        have := World.cell?_spot hc0
        simpa [Addr.add] using this
      subst hspot
      rw [add_plain] at h1
      have hbW : b < W.heap.size := hlt (.cell b off) (List.mem_append_left _ (MemPlace.mem_row.2 ⟨0, by omega, by simp⟩))
      have hbd := bulk_mem (H := H) (l := (List.range len).map D) (d := D i) (List.mem_map.2 ⟨i, List.mem_range.2 hi, rfl⟩)
      obtain ⟨x, hx1, hx2⟩ := sop_open h1 h2 (fun y hy => hlt y (List.mem_append_right _ (List.mem_flatMap.2 ⟨i, List.mem_range.2 (by omega), hy⟩))) (by omega)
      exact ⟨x, b, off, rfl, hbW, hx1, hx2⟩
    haveI : Inhabited SOp := ⟨⟨0, 0, 0, 0, 0, 0, none, 0, [], 0, none, 0, [], none, 0, []⟩⟩
    obtain ⟨S, hS⟩ := Go.Deep.choose_lt each
    exact ⟨S, hS⟩
end Go.Proofs.Ytbaigjckimpkmaa
