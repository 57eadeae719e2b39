import Derived.Test.YthfncfmfcbhpfaaJLr
import Derived.Test.YthfncfmfcbhpfaaLOpen
import Derived.Deep.SlicePairs
import Derived.Lib.SmallJoins
namespace Go.Proofs.Ythfncfmfcbhpfaa
open Go.ChangeShapes Go.WideShapes Go.ChangeAt Go.RowKit Go.Joins
set_option maxRecDepth 100000
theorem Try.cellsFR : Try.prog.cellsOf 38 = 2 := by kernel_rfl
theorem Try.cellsFW : Try.prog.cellsOf 22 = 1 := by kernel_rfl
theorem Try.cellsFB : Try.prog.cellsOf 35 = 1 := by kernel_rfl
theorem Try.cellsFP : Try.prog.cellsOf 28 = 2 := by kernel_rfl
theorem weightsAll_mf {H : Type} {P : Program} {e : TypeId} {d : DataW H} {L : List (DataW H)} (hd : d ∈ L) {m : Nat} (hm : m ∈ d.weights P e) : m ∈ DataW.weightsAll P e L := by
  induction L with
  | nil => cases hd
  | cons x L ih =>
    simp only [DataW.weightsAll, List.mem_append]
    rcases List.mem_cons.1 hd with rfl | h
    · exact .inl hm
    · exact .inr (ih h)
theorem write_openS {H : Type} {enc : TypeId × Value → H} {W : World} {n b o : Nat} {v0 v1 : Value} {d0 d1 : DataW H} {p0 p1 : List MemPlace}
    (e0 : W.cell? ⟨b, o, none⟩ = some v0) (e1 : W.cell? ⟨b, o + 1, none⟩ = some v1)
    (g0 : DataW.trod enc Try.prog W 0 (fun _ => true) true n 22 [v0] = some (d0, p0)) (g1 : DataW.trod enc Try.prog W 0 (fun _ => true) true n 35 [v1] = some (d1, p1)) (hlt : ∀ x ∈ p1, x.block < W.heap.size) (hw : ∀ m ∈ d1.weights Try.prog 35, m ≤ reachBytes) :
    ∃ r : RW, W.cell? ⟨b, o, none⟩ = some (.int .u32 (r.1 : Nat)) ∧ W.cell? ⟨b, o + 1, none⟩ = some (.slice r.2.1 r.2.2.1.length r.2.2.2) ∧ Reads W r.2.1 r.2.2.1 W.heap.size ∧ r.2.2.1.length ≤ 140737488351232 ∧ r.2.2.1.length ≤ r.2.2.2 := by
  obtain ⟨A, hv0, _, hA⟩ := DataW.trod_int Try.underlying22 g0
  obtain ⟨ao, cap, zs, hv1, hcp, hwf, hr, hdd⟩ := bytes_cells g1 hlt
  simp only [List.cons.injEq, and_true] at hv0 hv1
  subst hv0 hv1
  have hAr := word_wf hA
  obtain ⟨a, rfl⟩ := Int.eq_ofNat_of_zero_le hAr.1
  refine ⟨(a, ao, zs, cap), e0, e1, hr, ?_, hcp⟩
  simp only
  rcases hdd with ⟨_, rfl⟩ | ⟨sp, hd⟩
  · exact Nat.zero_le _
  · have hm : (zs.length + sp.length) * Try.prog.bytesOf 5 ∈ d1.weights Try.prog 35 := by
      rw [hd]
      simp [DataW.weights, Try.underlying35, lits]
    have := hw _ hm
    rw [show Try.prog.bytesOf 5 = 1 by kernel_rfl] at this
    unfold reachBytes at this
    omega
theorem writes_openS {H : Type} {enc : TypeId × Value → H} {W : World} {fuel : Nat} {a0 : Option Addr} {len cap : Nat} {d : DataW H} {p : List MemPlace}
    (hf : DataW.trod enc Try.prog W 0 (fun _ => true) true fuel 26 [.slice a0 len cap] = some (d, p)) (hlt : ∀ x ∈ p, x.block < W.heap.size) (hw : ∀ m ∈ d.weights Try.prog 26, m ≤ reachBytes) :
    ∃ R : List RW, R.length = len ∧ RsR W a0 R W.heap.size ∧ R.length * 32 ≤ 140737488351232 := by
  rcases Go.Deep.open_slice_pairs Try.underlying26 Try.underlying38 Try.cellsFR rfl rfl Try.cellsFW Try.cellsFB hf with ⟨hcs, hx⟩ | ⟨a, len', cap', m, n, V0, V1, D0, D1, P0, P1, hcs, _, hl, hm, hmm, hx, hel⟩
  · simp at hcs
    obtain ⟨rfl, rfl, rfl⟩ := hcs
    exact ⟨[], rfl, ⟨fun h => by simp at h, fun j hj => by simp at hj⟩, by simp⟩
  · simp at hcs
    obtain ⟨rfl, rfl, rfl⟩ := hcs
    simp only [Prod.mk.injEq] at hx
    obtain ⟨rfl, rfl⟩ := hx
    simp only [if_true] at hmm
    subst hmm
    obtain ⟨b, off, spot⟩ := a
    by_cases hlen : len = 0
    · subst hlen
      exact ⟨[], rfl, ⟨fun h => by simp at h, fun j hj => by simp at hj⟩, by simp⟩
    have hspot : spot = none := by
      have := World.cell?_spot (hel 0 (by omega)).1
      simpa [Addr.add] using this
    subst hspot
    have hbW : b < W.heap.size := hlt (.cell b off) (List.mem_append_left _ (MemPlace.mem_row.2 ⟨0, by omega, by simp⟩))
    have hwe : ∀ i, i < len → ∀ m ∈ (D1 i).weights Try.prog 35, m ≤ reachBytes := fun i hi m hm => hw m (by
      simp only [DataW.weights, Try.underlying26]
      refine List.mem_cons_of_mem _ (List.mem_append_left _ (weightsAll_mf (List.mem_map.2 ⟨i, List.mem_range.2 hi, rfl⟩) ?_))
      unfold DataW.weights
      rw [Try.underlying38]
      exact DataW.weights_mem_each (j := 1) (t := 35) (d := D1 i) rfl rfl _ hm)
    have hwl : len * 32 ≤ reachBytes := by
      have hw2 := hw
      simp only [DataW.weights, Try.underlying26] at hw2
      have := hw2 _ List.mem_cons_self
      rw [show Try.prog.bytesOf 38 = 32 by kernel_rfl] at this
      simp at this
      omega
    have each : ∀ i, i < len → ∃ r : RW, W.cell? ⟨b, off + i * 2, none⟩ = some (.int .u32 (r.1 : Nat)) ∧ W.cell? ⟨b, off + i * 2 + 1, none⟩ = some (.slice r.2.1 r.2.2.1.length r.2.2.2) ∧ Reads W r.2.1 r.2.2.1 W.heap.size ∧ r.2.2.1.length ≤ 140737488351232 ∧ r.2.2.1.length ≤ r.2.2.2 := by
      intro i hi
      obtain ⟨e0, e1, g0, g1⟩ := hel i (by omega)
      rw [add_plain] at e0 e1
      exact write_openS e0 (by rw [Nat.add_assoc]; exact e1) g0 g1 (fun x hx => hlt x (List.mem_append_right _ (List.mem_flatMap.2 ⟨i, List.mem_range.2 (by omega), List.mem_append_right _ hx⟩))) (hwe i hi)
    obtain ⟨S, hS⟩ := Go.Deep.choose_lt each
    have eS : ∀ i, i < len → ((List.range len).map S).getD i rw0 = S i := fun i hi => by simp [hi]
    refine ⟨(List.range len).map S, by simp, ⟨fun _ => ⟨b, off, rfl, hbW, fun i hi => ?_⟩, fun i hi => ?_⟩, by unfold reachBytes at hwl; simp; omega⟩
    · rw [List.length_map, List.length_range] at hi
      rw [eS i hi]
      exact ⟨(hS i hi).1, (hS i hi).2.1⟩
    · rw [List.length_map, List.length_range] at hi
      rw [eS i hi]
      exact (hS i hi).2.2
/-- a reply that is handed in -/
theorem reply_openS {H : Type} {enc : TypeId × Value → H} {W : World} {base : Nat} {v : Value} {d : DataW H} {p : List MemPlace}
    (hv : Value.okWide Try.prog W .any base 28 v) (h : DataW.Trod enc Try.prog W 0 (fun _ => true) true 28 v d p) (hlt : ∀ x ∈ p, x.block < W.heap.size) (hw : ∀ m ∈ d.weights Try.prog 28, m ≤ reachBytes) :
    ∃ (n : Int) (ao : Option Addr) (c : Nat) (R : List RW), v = .agg #[.int .u32 n, .slice ao R.length c] ∧ RsR W ao R W.heap.size ∧ R.length * 32 ≤ 140737488351232 := by
  obtain ⟨c0, c1, y0, y1, m, rfl, rfl, rfl, hy0, hy1⟩ := open_agg2 Try.underlying28 (by kernel_rfl) Try.cellsFP hv h
  obtain ⟨n, e0, _, _⟩ := DataW.trod_int Try.underlying22 hy0
  obtain ⟨ao, l, c, e1⟩ := slice_form Try.underlying26 hy1
  simp only [List.cons.injEq, and_true] at e0 e1
  subst e0 e1
  obtain ⟨R, rfl, h1, h2⟩ := writes_openS (d := y1.1) (p := y1.2) hy1 (fun x hx => hlt x (List.mem_append_right _ hx)) (fun m hm => hw m (by
    unfold DataW.weights
    rw [Try.underlying28]
    exact DataW.weights_mem_each (j := 1) (t := 26) (d := y1.1) rfl rfl _ hm))
  exact ⟨n, ao, c, R, rfl, h1, h2⟩
end Go.Proofs.Ythfncfmfcbhpfaa
