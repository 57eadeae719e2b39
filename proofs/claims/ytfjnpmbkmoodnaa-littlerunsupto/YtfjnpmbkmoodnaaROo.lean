import Derived.Test.YtfjnpmbkmoodnaaLRunO
import Derived.Test.YtfjnpmbkmoodnaaROw
import Derived.Deep.Slices
import Derived.ChangeSame
namespace Go.Proofs.Ytfjnpmbkmoodnaa
open Go.ChangeShapes Go.WideShapes Go.ChangeAt Go.RowKit
set_option maxRecDepth 100000

theorem Try.cellsRop : Try.prog.cellsOf 29 = 4 := by kernel_rfl
theorem Try.cells4 : Try.prog.cellsOf 4 = 1 := by kernel_rfl
theorem Try.cellsLR : Try.prog.cellsOf 27 = 1 := by kernel_rfl
theorem bulk_pos1 {H : Type} (d : DataW H) : 1 ≤ Rows.uptoBulk d := by
  cases d with
  | lit l => cases l <;> simp [Rows.uptoBulk]
  | nil => simp [Rows.uptoBulk]
  | ptr d => simp [Rows.uptoBulk]
  | slice a b => simp [Rows.uptoBulk]
  | agg a => simp [Rows.uptoBulk]
  | iface a b => simp [Rows.uptoBulk]
  | map a => simp [Rows.uptoBulk]
  | held a => simp [Rows.uptoBulk]
theorem runs_cells {H : Type} {enc : TypeId × Value → H} {W : World} {fuel : Nat} {v : Value} {d : DataW H} {p : List MemPlace}
    (hf : DataW.trod enc Try.prog W 0 (fun _ => true) true fuel 27 [v] = some (d, p)) (hlt : ∀ x ∈ p, x.block < W.heap.size) :
    ∃ (a0 : Option Addr) (cap : Nat) (R : List Rn), v = .slice a0 R.length cap ∧ RunsR W a0 R W.heap.size ∧ (∀ r ∈ R, r.1 ≤ 4294967295) ∧ (∀ r ∈ R, ∀ z ∈ r.2, 0 ≤ z ∧ z ≤ 255) ∧ wgt R + R.length ≤ Rows.uptoBulk d := by
  have hv : ∃ a0 len cap, v = .slice a0 len cap := by
    rcases Go.Deep.open_slice Try.underlying27 hf with ⟨hcs, _⟩ | ⟨a, len, cap, m, n, D, Pl, hcs, _⟩
    · simp only [List.cons.injEq, and_true] at hcs; exact ⟨_, _, _, hcs⟩
    · simp only [List.cons.injEq, and_true] at hcs; exact ⟨_, _, _, hcs⟩
  obtain ⟨a0, len, cap, rfl⟩ := hv
  obtain ⟨R, rfl, h1, h2, h3, h4⟩ := runs_open (d := d) (p := p) ⟨fuel, by simpa [Value.cells] using hf⟩ hlt
  exact ⟨a0, cap, R, rfl, h1, h2, h3, h4⟩
theorem rop_open {H : Type} {enc : TypeId × Value → H} {W : World} {n b o : Nat} {cs : List Value} {d : DataW H} {p : List MemPlace}
    (hc : W.cells? 0 ⟨b, o, none⟩ 4 = some cs) (h : DataW.trod enc Try.prog W 0 (fun _ => true) true n 29 cs = some (d, p)) (hlt : ∀ x ∈ p, x.block < W.heap.size)
    (hw : Rows.uptoBulk d ≤ 1048576) : ∃ x : ROp, x.At W b o ∧ x.Ok W := by
  obtain ⟨_, hlen, hcell⟩ := World.cells?_some hc
  obtain ⟨xs, k, hk, hxy, _, hxl, hf⟩ := DataW.trod_struct Try.underlying29 h
  match xs, hxl, cs, hlen with
  | [y0, y1, y2, y3], _, [v0, v1, v2, v3], _ =>
    have g0 := hf 0 _ rfl
    have g1 := hf 1 _ rfl
    have g2 := hf 2 _ rfl
    have g3 := hf 3 _ rfl
    simp [Try.cells4, Try.cellsB, Try.cellsLR] at g0 g1 g2 g3
    have e0 := hcell 0 (by omega)
    have e1 := hcell 1 (by omega)
    have e2 := hcell 2 (by omega)
    have e3 := hcell 3 (by omega)
    simp [add_plain] at e0 e1 e2 e3
    simp only [Prod.mk.injEq] at hxy
    obtain ⟨hd, hp⟩ := hxy
    obtain ⟨d1, p1⟩ := y1
    obtain ⟨d2, p2⟩ := y2
    obtain ⟨d3, p3⟩ := y3
    obtain ⟨m, hv0, _⟩ := DataW.trod_bool Try.underlying4 g0
    obtain ⟨fo, fc, fs, hv1, _, hfw, hfr, hfd⟩ := bytes_cells g1 (fun x hx => hlt x (by rw [hp]; simp [hx]))
    obtain ⟨so, sc, ts, hv2, _, htw, htr, htd⟩ := bytes_cells g2 (fun x hx => hlt x (by rw [hp]; simp [hx]))
    obtain ⟨ro, rc, R, rfl, hRr, hRa, hRw, hRb⟩ := runs_cells g3 (fun x hx => hlt x (by rw [hp]; simp [hx]))
    simp only [List.cons.injEq, and_true] at hv0 hv1 hv2
    subst hv0 hv1 hv2
    have hfb : fs.length ≤ Rows.uptoBulk d1 := by
      rcases hfd with ⟨rfl, rfl⟩ | ⟨sp, rfl⟩
      · simp [Rows.uptoBulk]
      · simp only [Rows.uptoBulk, bulk_lits]; omega
    have htb : ts.length ≤ Rows.uptoBulk d2 := by
      rcases htd with ⟨rfl, rfl⟩ | ⟨sp, rfl⟩
      · simp [Rows.uptoBulk]
      · simp only [Rows.uptoBulk, bulk_lits]; omega
    rw [hd] at hw
    simp only [Rows.uptoBulk, Rows.uptoBulkAll, List.map_cons, List.map_nil] at hw
    exact ⟨⟨m, fo, fc, fs, so, sc, ts, ro, rc, R⟩, ⟨e0, e1, e2, e3⟩, ⟨by show fs.length ≤ _; omega, hfw, hfr, by show ts.length ≤ _; omega, htw, htr, by show R.length ≤ _; omega, fun r hr => by have h9 : r.2.length ≤ wgt R := wgt_mem hr; omega, hRa, hRw, hRr⟩⟩
theorem rscript_open {H : Type} {enc : TypeId × Value → H} {W : World} {a0 : Option Addr} {len cap : Nat} {d : DataW H} {p : List MemPlace}
    (h : DataW.Trod enc Try.prog W 0 (fun _ => true) true 22 (.slice a0 len cap) d p) (hlt : ∀ x ∈ p, x.block < W.heap.size)
    (hw : Rows.uptoBulk d ≤ 1048576) : len ≤ 1048576 ∧ ∃ S, RScript W a0 len S := by
  obtain ⟨fuel, hf⟩ := h
  rcases Go.Deep.open_slice Try.underlying22 hf with ⟨hcs, hx⟩ | ⟨a, len', cap', m, n, D, Pl, hcs, _, hl, hm, hmm, hx, hel⟩
  · simp [Value.cells] at hcs
    obtain ⟨rfl, rfl, rfl⟩ := hcs
    exact ⟨by omega, fun _ => ⟨false, none, 0, [], none, 0, [], none, 0, []⟩, fun i hi => absurd hi (Nat.not_lt_zero _)⟩
  · simp [Value.cells] at hcs
    obtain ⟨rfl, rfl, rfl⟩ := hcs
    simp only [Prod.mk.injEq] at hx
    obtain ⟨rfl, rfl⟩ := hx
    simp only [if_true] at hmm
    subst hmm
    rw [Try.cellsRop] at hel hlt
    simp only [Rows.uptoBulk] at hw
    have hlen : len ≤ 1048576 := by
      have h1 := bulk_len ((List.range len).map D) (fun d _ => bulk_pos1 d)
      simp only [List.length_map, List.length_range] at h1
      omega
    refine ⟨hlen, ?_⟩
    have each : ∀ i, i < len → ∃ x : ROp, ∃ b off, some a = some (⟨b, off, none⟩ : Addr) ∧ b < W.heap.size ∧ x.At W b (off + i * 4) ∧ x.Ok W := by
      intro i hi
      obtain ⟨cs', h1, h2⟩ := hel i (by omega)
      obtain ⟨b, off, spot⟩ := a
      have hspot : spot = none := by
        obtain ⟨cs0, h10, _⟩ := hel 0 (by omega)
        have hc0 := (World.cells?_some h10).2.2 0 (by omega)
        have hl' : cs0.length = 4 := (World.cells?_some h10).2.1
        rw [List.getElem?_eq_getElem (by omega)] at hc0
        have := World.cell?_spot hc0
        simpa [Addr.add] using this
      subst hspot
      rw [add_plain] at h1
      have hbW : b < W.heap.size := hlt (.cell b off) (List.mem_append_left _ (MemPlace.mem_row.2 ⟨0, by omega, by simp⟩))
      have hbd := bulk_mem (H := H) (l := (List.range len).map D) (d := D i) (List.mem_map.2 ⟨i, List.mem_range.2 hi, rfl⟩)
      obtain ⟨x, hx1, hx2⟩ := rop_open h1 h2 (fun y hy => hlt y (List.mem_append_right _ (List.mem_flatMap.2 ⟨i, List.mem_range.2 (by omega), hy⟩))) (by omega)
      exact ⟨x, b, off, rfl, hbW, hx1, hx2⟩
    haveI : Inhabited ROp := ⟨⟨false, none, 0, [], none, 0, [], none, 0, []⟩⟩
    obtain ⟨S, hS⟩ := Go.Deep.choose_lt each
    exact ⟨S, hS⟩
end Go.Proofs.Ytfjnpmbkmoodnaa
