import Derived.Test.YtpndbbepfjocgaaVLw
import Derived.Test.YtpndbbepfjocgaaCLOpen
import Derived.Deep.Slices
import Derived.Lib.SmallJoins
import Derived.ChangeMaps5
namespace Go.Proofs.Ytpndbbepfjocgaa
open Go.ChangeShapes Go.WideShapes Go.ChangeAt Go.RowKit Go.Joins Go.Deep
set_option maxRecDepth 100000

theorem Try.cells3 : Try.prog.cellsOf 40 = 3 := by kernel_rfl
theorem elem3 {H : Type} {enc : TypeId × Value → H} {P : Program} {w : World} {base : Nat} {spare : Nat → Bool} {held : Bool} {e : TypeId} {f0 f1 f2 : Field} {n : Nat} {cs : List Value} {x : DataW H × List MemPlace} (he : P.underlying e = some (.struct #[f0, f1, f2])) (hone : oneCellFields P #[f0, f1, f2] = true) (hl : cs.length = 3) (h : DataW.trod enc P w base spare held n e cs = some x) :
    ∃ (v0 v1 v2 : Value) (y0 y1 y2 : DataW H × List MemPlace) (k : Nat), cs = [v0, v1, v2] ∧ x.1 = .agg [y0.1, y1.1, y2.1] ∧ DataW.trod enc P w base spare held k f0.type [v0] = some y0 ∧ DataW.trod enc P w base spare held k f1.type [v1] = some y1 ∧ DataW.trod enc P w base spare held k f2.type [v2] = some y2 := by
  obtain ⟨xs, k, _, rfl, _, hlen, hf⟩ := DataW.trod_struct he h
  match xs, hlen, cs, hl with
  | [y0, y1, y2], _, [v0, v1, v2], _ =>
    have h0 := hf 0 f0 rfl
    obtain ⟨o0, k0⟩ := hone_of hone 0 f0 rfl
    rw [o0, k0] at h0
    have h1 := hf 1 f1 rfl
    obtain ⟨o1, k1⟩ := hone_of hone 1 f1 rfl
    rw [o1, k1] at h1
    have h2 := hf 2 f2 rfl
    obtain ⟨o2, k2⟩ := hone_of hone 2 f2 rfl
    rw [o2, k2] at h2
    exact ⟨v0, v1, v2, y0, y1, y2, k, rfl, rfl, by simpa using h0, by simpa using h1, by simpa using h2⟩
theorem nat_ofV {z : Int} {m : Int} (h : 0 ≤ z ∧ z ≤ m) : ∃ n : Nat, z = n ∧ (n : Int) ≤ m := by
  obtain ⟨n, rfl⟩ := Int.eq_ofNat_of_zero_le h.1
  exact ⟨n, rfl, h.2⟩
/-- a token of a slice that is handed in -/
theorem tok_open {H : Type} {enc : TypeId × Value → H} {W : World} {n b off i : Nat} {cs : List Value} {x : DataW H × List MemPlace} (h1 : W.cells? 0 ((⟨b, off, none⟩ : Addr).add (i * 3)) 3 = some cs) (h : DataW.trod enc Try.prog W 0 (fun _ => true) true n 40 cs = some x) :
    ∃ y : Tt, W.cell? ⟨b, off + i * 3, none⟩ = some (.int .u8 y.1) ∧ W.cell? ⟨b, off + i * 3 + 1, none⟩ = some (.int .i64 y.2.1) ∧ W.cell? ⟨b, off + i * 3 + 2, none⟩ = some (.string y.2.2) ∧ y.2.2.size ≤ 9223372036854775807 ∧ y.2.2.size + 1 ≤ Rows.uptoBulk x.1 := by
  obtain ⟨_, hlen, hcell⟩ := World.cells?_some h1
  obtain ⟨v0, v1, v2, y0, y1, y2, k, rfl, hx, t0, t1, t2⟩ := elem3 Try.underlying40 (by kernel_rfl) hlen h
  have hc : ∀ j, j < 3 → W.cell? ⟨b, off + i * 3 + j, none⟩ = [v0, v1, v2][j]? := fun j hj => by
    have := hcell j (by omega)
    rw [Go.Deep.add_add, Go.WideShapes.add_plain] at this
    rw [Nat.add_assoc, this]
  obtain ⟨z0, e0, _, w0⟩ := DataW.trod_int Try.underlying38 t0
  obtain ⟨z1, e1, _, _⟩ := DataW.trod_int Try.underlying3 t1
  obtain ⟨T, e2, hT, hs⟩ := DataW.trod_string Try.underlying9 t2
  simp only [List.cons.injEq, and_true] at e0 e1 e2
  subst e0 e1 e2
  obtain ⟨n0, rfl, b0⟩ := nat_ofV (byte_wf w0)
  refine ⟨(n0, z1, T), (hc 0 (by decide)).trans rfl, (hc 1 (by decide)).trans rfl, (hc 2 (by decide)).trans rfl, by unfold maxLen at hs; exact hs, ?_⟩
  rw [hx, hT]
  have hl : T.data.toList.length = T.size := by rw [Array.length_toList]; rfl
  simp only [Rows.uptoBulk, Rows.uptoBulkAll, hl]
  omega
def smT (Y : List Tt) : Nat := (Y.map fun y => y.2.2.size + 1).sum
theorem bulk_sum {H : Type} (f : Nat → Tt) (D : Nat → DataW H) : ∀ n, (∀ i, i < n → (f i).2.2.size + 1 ≤ Rows.uptoBulk (D i)) → smT ((List.range n).map f) ≤ Rows.uptoBulkAll ((List.range n).map D)
  | 0, _ => Nat.le_refl _
  | n + 1, h => by
    have ih := bulk_sum f D n (fun i hi => h i (by omega))
    have hn := h n (by omega)
    have app : ∀ l r : List (DataW H), Rows.uptoBulkAll (l ++ r) = Rows.uptoBulkAll l + Rows.uptoBulkAll r := by
      intro l r
      induction l with
      | nil => simp [Rows.uptoBulkAll]
      | cons x l ih => simp only [List.cons_append, Rows.uptoBulkAll, ih]; omega
    rw [List.range_succ, List.map_append, List.map_append, app]
    have e1 : smT ((List.range n).map f ++ [n].map f) = smT ((List.range n).map f) + ((f n).2.2.size + 1) := by
      unfold smT
      rw [List.map_append, List.sum_append]
      simp
    have e2 : Rows.uptoBulkAll ([n].map D) = Rows.uptoBulk (D n) := by simp [Rows.uptoBulkAll]
    rw [e1, e2]
    omega
/-- tokens that are handed in -/
theorem toks_open {H : Type} {enc : TypeId × Value → H} {W : World} {a0 : Option Addr} {len cap : Nat} {d : DataW H} {p : List MemPlace}
    (h : DataW.Trod enc Try.prog W 0 (fun _ => true) true 22 (.slice a0 len cap) d p) (hlt : ∀ x ∈ p, x.block < W.heap.size) :
    ∃ Y : List Tt, Y.length = len ∧ TRd W a0 Y W.heap.size ∧ (∀ y ∈ Y, y.2.2.size ≤ 9223372036854775807) ∧ smT Y ≤ Rows.uptoBulk d := by
  obtain ⟨fuel, hf⟩ := h
  rcases Go.Deep.open_slice Try.underlying22 hf with ⟨hcs, hx⟩ | ⟨a, len', cap', m, n, D, Pl, hcs, _, hl, hm, hmm, hx, hel⟩
  · simp [Value.cells] at hcs
    obtain ⟨rfl, rfl, rfl⟩ := hcs
    exact ⟨[], rfl, fun hp => by simp at hp, fun s hs => by simp at hs, by simp [smT]⟩
  · simp only [Prod.mk.injEq] at hx
    obtain ⟨rfl, rfl⟩ := hx
    simp [Value.cells] at hcs
    obtain ⟨rfl, rfl, rfl⟩ := hcs
    simp only [if_true] at hmm
    subst hmm
    rw [Try.cells3] at hel hlt
    by_cases hz : len = 0
    · subst hz
      exact ⟨[], rfl, fun hp => by simp at hp, fun s hs => by simp at hs, by simp [smT]⟩
    obtain ⟨b, off, spot⟩ := a
    obtain ⟨cs0, g0, _⟩ := hel 0 (by omega)
    have hspot : spot = none := by
      obtain ⟨_, hl0, hc0⟩ := World.cells?_some g0
      have := hc0 0 (by omega)
      rw [List.getElem?_eq_getElem (by omega)] at this
      simpa [Addr.add] using World.cell?_spot this
    subst hspot
    have hbW : b < W.heap.size := hlt (.cell b off) (List.mem_append_left _ (MemPlace.mem_row.2 ⟨0, by omega, by simp⟩))
    have each : ∀ i, i < len → ∃ y : Tt, W.cell? ⟨b, off + i * 3, none⟩ = some (.int .u8 y.1) ∧ W.cell? ⟨b, off + i * 3 + 1, none⟩ = some (.int .i64 y.2.1) ∧ W.cell? ⟨b, off + i * 3 + 2, none⟩ = some (.string y.2.2) ∧ y.2.2.size ≤ 9223372036854775807 ∧ y.2.2.size + 1 ≤ Rows.uptoBulk (D i) := fun i hi => by
      obtain ⟨cs', g1, g2⟩ := hel i (by omega)
      exact tok_open g1 g2
    obtain ⟨f, hfx⟩ : ∃ f : Nat → Tt, ∀ i, i < len → W.cell? ⟨b, off + i * 3, none⟩ = some (.int .u8 (f i).1) ∧ W.cell? ⟨b, off + i * 3 + 1, none⟩ = some (.int .i64 (f i).2.1) ∧ W.cell? ⟨b, off + i * 3 + 2, none⟩ = some (.string (f i).2.2) ∧ (f i).2.2.size ≤ 9223372036854775807 ∧ (f i).2.2.size + 1 ≤ Rows.uptoBulk (D i) :=
      ⟨fun i => if hi : i < len then (each i hi).choose else (0, 0, ⟨#[]⟩), fun i hi => by simp only [hi, dite_true]; exact (each i hi).choose_spec⟩
    refine ⟨(List.range len).map f, by simp, ?_, ?_, ?_⟩
    · intro _
      refine ⟨b, off, rfl, hbW, fun i y hy => ?_⟩
      rw [List.getElem?_map] at hy
      rcases Nat.lt_or_ge i len with hi | hi
      · rw [List.getElem?_range hi] at hy
        simp at hy
        subst hy
        obtain ⟨q1, q2, q3, _⟩ := hfx i hi
        exact ⟨q1, q2, q3⟩
      · rw [List.getElem?_eq_none (by simp; omega)] at hy
        simp at hy
    · intro s hs
      obtain ⟨i, hi, rfl⟩ := List.mem_map.1 hs
      exact (hfx i (List.mem_range.1 hi)).2.2.2.1
    · have := bulk_sum f D len (fun i hi => (hfx i hi).2.2.2.2)
      simp only [Rows.uptoBulk]
      omega
theorem smT_len (Y : List Tt) : Y.length ≤ smT Y := by
  induction Y with
  | nil => simp [smT]
  | cons y Y ih => unfold smT at *; simp; omega
theorem gls_smT : ∀ (Y : List Tt) (p : Nat), (gls p (Y.map ktO)).length ≤ smT Y
  | [], p => by simp [gls, smT]
  | y :: Y, p => by
    have h := gls_smT Y y.1
    have e : smT (y :: Y) = y.2.2.size + 1 + smT Y := by simp [smT]
    rw [e, List.map_cons, gls, List.length_append, List.length_append, bz_len]
    have h2 : (sepOf p (ktO y)).length ≤ 1 := by
      unfold sepOf
      split <;> simp
    have h3 : (ktO y).2 = y.2.2 := rfl
    have h4 : (ktO y).1 = y.1 := rfl
    rw [h3, h4]
    omega
theorem Lk_smT (Y : List Tt) (k : Nat) : (Lk Y k).length ≤ smT Y := Nat.le_trans (Lk_le Y k) (gls_smT Y 6)
end Go.Proofs.Ytpndbbepfjocgaa
