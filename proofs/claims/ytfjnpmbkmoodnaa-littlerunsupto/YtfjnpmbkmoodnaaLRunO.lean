import Derived.Test.YtfjnpmbkmoodnaaLRunW
import Derived.Test.YtfjnpmbkmoodnaaLOpen
import Derived.Deep.SlicePairs
namespace Go.Proofs.Ytfjnpmbkmoodnaa
open Go.ChangeShapes Go.WideShapes Go.ChangeAt Go.RowKit

theorem Try.cellsR : Try.prog.cellsOf 48 = 2 := by kernel_rfl
theorem Try.cellsW : Try.prog.cellsOf 46 = 1 := by kernel_rfl
theorem Try.cellsB : Try.prog.cellsOf 26 = 1 := by kernel_rfl
theorem bytes_nil {H : Type} {enc : TypeId × Value → H} {W : World} {len cap : Nat} {d : DataW H} {p : List MemPlace}
    (h : DataW.Trod enc Try.prog W 0 (fun _ => true) true 26 (.slice none len cap) d p) : len = 0 := by
  obtain ⟨fuel, hf⟩ := h
  rcases open_ints Try.underlying26 Try.underlying5 Try.cells5 hf with ⟨hcs, _⟩ | ⟨a, len', cap', zs, hcs, _⟩
  · simp [Value.cells] at hcs; exact hcs.1
  · simp [Value.cells] at hcs
theorem bulk_mem {H : Type} : ∀ {l : List (DataW H)} {d : DataW H}, d ∈ l → Rows.uptoBulk d ≤ Rows.uptoBulkAll l
  | d' :: r, d, hd => by
    simp only [Rows.uptoBulkAll]
    rcases List.mem_cons.1 hd with rfl | h
    · omega
    · have := bulk_mem h; omega
theorem bulk_len {H : Type} : ∀ (l : List (DataW H)), (∀ d ∈ l, 1 ≤ Rows.uptoBulk d) → l.length ≤ Rows.uptoBulkAll l
  | [], _ => by simp [Rows.uptoBulkAll]
  | d :: r, h => by
    have h1 := h d (by simp)
    have h2 := bulk_len r (fun x hx => h x (by simp [hx]))
    simp only [Rows.uptoBulkAll, List.length_cons]
    omega

theorem run_open {H : Type} {enc : TypeId × Value → H} {W : World} {n b o : Nat} {v0 v1 : Value} {d0 d1 : DataW H} {p0 p1 : List MemPlace}
    (e0 : W.cell? ⟨b, o, none⟩ = some v0) (e1 : W.cell? ⟨b, o + 1, none⟩ = some v1)
    (g0 : DataW.trod enc Try.prog W 0 (fun _ => true) true n 46 [v0] = some (d0, p0)) (g1 : DataW.trod enc Try.prog W 0 (fun _ => true) true n 26 [v1] = some (d1, p1)) (hlt : ∀ x ∈ p1, x.block < W.heap.size) :
    ∃ r : Rn, RunAt W b o r W.heap.size ∧ r.1 ≤ 4294967295 ∧ (∀ z ∈ r.2, 0 ≤ z ∧ z ≤ 255) ∧ r.2.length + 1 ≤ Rows.uptoBulk d1 := by
  obtain ⟨A, hv0, _, hA⟩ := DataW.trod_int Try.underlying46 g0
  obtain ⟨ao, cap, zs, hv1, hcp, hwf, hr, hdd⟩ := bytes_cells g1 hlt
  simp only [List.cons.injEq, and_true] at hv0 hv1
  subst hv0 hv1
  have hAr := word_wf hA
  obtain ⟨a, rfl⟩ := Int.eq_ofNat_of_zero_le hAr.1
  refine ⟨(a, zs), ⟨e0, ao, cap, e1, hcp, fun hn => ?_, hr⟩, by simp only; omega, hwf, ?_⟩
  · subst hn
    have := bytes_nil (len := zs.length) (cap := cap) ⟨n, by simpa [Value.cells] using g1⟩
    exact List.eq_nil_of_length_eq_zero this
  · rcases hdd with ⟨rfl, rfl⟩ | ⟨sp, rfl⟩
    · simp [Rows.uptoBulk]
    · simp only [Rows.uptoBulk, bulk_lits]; omega

theorem wgt_mem : ∀ {R : List Rn} {r : Rn}, r ∈ R → r.2.length ≤ wgt R
  | r' :: R, r, h => by
    simp only [wgt]
    rcases List.mem_cons.1 h with rfl | h
    · omega
    · have := wgt_mem h; omega
theorem wgt_le_bulk {H : Type} (R : List Rn) (l : List (DataW H)) (hl : R.length = l.length) (h : ∀ i, (hi : i < R.length) → (R[i]).2.length + 1 ≤ Rows.uptoBulk (l[i]'(by omega))) : wgt R + R.length ≤ Rows.uptoBulkAll l := by
  induction R generalizing l with
  | nil => simp [wgt]
  | cons r R ih =>
    cases l with
    | nil => simp at hl
    | cons d l =>
      have h0 := h 0 (by simp)
      have h1 := ih l (by simpa using hl) (fun i hi => h (i + 1) (by simp; omega))
      simp only [List.getElem_cons_zero] at h0
      simp only [wgt, Rows.uptoBulkAll, List.length_cons]
      omega

theorem runs_open {H : Type} {enc : TypeId × Value → H} {W : World} {a0 : Option Addr} {len cap : Nat} {d : DataW H} {p : List MemPlace}
    (h : DataW.Trod enc Try.prog W 0 (fun _ => true) true 27 (.slice a0 len cap) d p) (hlt : ∀ x ∈ p, x.block < W.heap.size) :
    ∃ R : List Rn, R.length = len ∧ RunsR W a0 R W.heap.size ∧ (∀ r ∈ R, r.1 ≤ 4294967295) ∧ (∀ r ∈ R, ∀ z ∈ r.2, 0 ≤ z ∧ z ≤ 255) ∧ wgt R + R.length ≤ Rows.uptoBulk d := by
  obtain ⟨fuel, hf⟩ := h
  rcases Go.Deep.open_slice_pairs Try.underlying27 Try.underlying48 Try.cellsR rfl rfl Try.cellsW Try.cellsB hf with ⟨hcs, hx⟩ | ⟨a, len', cap', m, n, V0, V1, D0, D1, P0, P1, hcs, _, hl, hm, hmm, hx, hel⟩
  · simp [Value.cells] at hcs
    obtain ⟨rfl, rfl, rfl⟩ := hcs
    exact ⟨[], rfl, fun h => by simp at h, by simp, by simp, by simp [wgt]⟩
  · simp [Value.cells] at hcs
    obtain ⟨rfl, rfl, rfl⟩ := hcs
    simp only [Prod.mk.injEq] at hx
    obtain ⟨rfl, rfl⟩ := hx
    simp only [if_true] at hmm
    subst hmm
    obtain ⟨b, off, spot⟩ := a
    by_cases hlen : len = 0
    · subst hlen
      exact ⟨[], rfl, fun h => by simp at h, by simp, by simp, by simp [wgt]⟩
    have hspot : spot = none := by
      have := World.cell?_spot (hel 0 (by omega)).1
      simpa [Addr.add] using this
    subst hspot
    have hbW : b < W.heap.size := hlt (.cell b off) (List.mem_append_left _ (MemPlace.mem_row.2 ⟨0, by omega, by simp⟩))
    have each : ∀ i, i < len → ∃ r : Rn, RunAt W b (off + i * 2) r W.heap.size ∧ r.1 ≤ 4294967295 ∧ (∀ z ∈ r.2, 0 ≤ z ∧ z ≤ 255) ∧ r.2.length + 1 ≤ Rows.uptoBulk (D1 i) := by
      intro i hi
      obtain ⟨e0, e1, g0, g1⟩ := hel i (by omega)
      rw [add_plain] at e0 e1
      exact run_open e0 (by rw [Nat.add_assoc]; exact e1) g0 g1 (fun x hx => hlt x (List.mem_append_right _ (List.mem_flatMap.2 ⟨i, List.mem_range.2 (by omega), List.mem_append_right _ hx⟩)))
    obtain ⟨S, hS⟩ := Go.Deep.choose_lt each
    refine ⟨(List.range len).map S, by simp, fun _ => ⟨b, off, rfl, hbW, fun i hi => ?_⟩, ?_, ?_, ?_⟩
    · rw [List.length_map, List.length_range] at hi
      have e : ((List.range len).map S).getD i (0, []) = S i := by simp [hi]
      rw [e]; exact (hS i hi).1
    · intro r hr
      obtain ⟨i, hi, rfl⟩ := List.mem_map.1 hr
      exact (hS i (List.mem_range.1 hi)).2.1
    · intro r hr
      obtain ⟨i, hi, rfl⟩ := List.mem_map.1 hr
      exact (hS i (List.mem_range.1 hi)).2.2.1
    · have h1 := wgt_le_bulk ((List.range len).map S) ((List.range len).map fun i => DataW.agg [D0 i, D1 i]) (by simp) (fun i hi => by
        rw [List.length_map, List.length_range] at hi
        have := (hS i hi).2.2.2
        simp only [List.getElem_map, List.getElem_range, Rows.uptoBulk, Rows.uptoBulkAll]
        omega)
      simp only [Rows.uptoBulk]
      omega
end Go.Proofs.Ytfjnpmbkmoodnaa
