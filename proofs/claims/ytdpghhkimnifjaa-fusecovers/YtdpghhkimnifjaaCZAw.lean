import Derived.Test.YtdpghhkimnifjaaCDLg
import Derived.Laws.AppendOwnNone
import Derived.Test.YtdpghhkimnifjaaCZLn
import Derived.Test.YtdpghhkimnifjaaCDPn
import Derived.ProofKit
import Derived.OpenShut
import Derived.SizedLaws
import Derived.JoinedCond
import Derived.Test.YtdpghhkimnifjaaCLWd32
import Derived.Deep.SlicePairs
namespace Go.Proofs.Ytdpghhkimnifjaa
open Go.RowKit Go.WideShapes
set_option maxRecDepth 100000

theorem infoDI : ∃ i : TypeInfo, Try.prog.info? 36 = some i ∧ i.zero = some (.agg #[.int .u8 0, .int .u32 0]) ∧ i.size = 2 ∧ i.bytes = 8 := by
  have h : (Try.prog.info? 36).map (fun i => (i.zero, i.size, i.bytes)) = some (some (.agg #[.int .u8 0, .int .u32 0]), 2, 8) := by kernel_rfl
  cases hi : Try.prog.info? 36 with
  | none => rw [hi] at h; simp at h
  | some i =>
    rw [hi] at h
    simp only [Option.map_some, Option.some.injEq, Prod.mk.injEq] at h
    exact ⟨i, rfl, h.1, h.2.1, h.2.2⟩
theorem cvD_one (L : List (Nat × Nat)) : ∀ u ∈ cv L, u.oneCell' = true := by
  intro u hu
  simp [cv] at hu
  obtain ⟨a, b, _, h | h⟩ := hu <;> subst h <;> rfl
/-- code that is read is put behind a row -/
theorem append_crd {w : World} {ops : Array Oper} {rest : List Oper} {o : Oper} {a : Act} {Q : Exit → Act → World → Prop} (hgd : o.guard = none) (s x : Operand)
    (ho : o.op = .call { callee := .builtin .append, args := #[s, x], argTypes := #[22, 22] })
    (base : Nat) (v : Value) (A : List (Nat × Nat)) (hs : a.eval s = v) (hown : w.ownsRow base 36 2 v A.length (cv A))
    (ao : Option Addr) (cap : Nat) (L : List (Nat × Nat)) (hx : a.eval x = .slice ao L.length cap) (hn : ao = none → cap = 0) (hr : CRd w ao L w.heap.size)
    (hb : A.length + L.length ≤ 4000000) (hbase : base ≤ w.heap.size)
    (h : ∀ v' w', w'.ownsRow base 36 2 v' (A ++ L).length (cv (A ++ L)) → w.grownBy w' v.ownBlock → wpList Try.prog ops Q rest (a.put o.dst v') w') : wpList Try.prog ops Q (o :: rest) a w := by
  obtain ⟨i, hi, hz0, hz1, hz2⟩ := infoDI
  cases ao with
  | none =>
    have hL : L = [] := by
      cases L with
      | nil => rfl
      | cons p L => obtain ⟨b, off, e, _⟩ := hr (by simp); cases e
    subst hL
    rw [hn rfl] at hx
    refine wpList_append_own_none hgd s x 22 ho base 36 i 2 Try.underlying22 hi v A.length (cv A) hs hown hx ?_
    exact h v w (by simpa using hown) (World.grownBy.refl _ _)
  | some ad =>
    refine wpList_append_own w hgd s x 22 ho base 36 i (.agg #[.int .u8 0, .int .u32 0]) 2 8 Try.underlying22 hi hz0 hz1 hz2 rfl (by decide) v A.length (cv A) hs hown ad L.length cap (cv L) hx (cv_len L) ?_ (cvD_one L) (by unfold maxLen; omega) (by omega) hbase (fun v' w' h1 h2 _ => h v' w' (by rw [List.length_append, cv_append]; exact h1) h2)
    intro j u hj
    have hjl : j < L.length * 2 := by
      have := (List.getElem?_eq_some_iff.1 hj).1
      rwa [cv_len] at this
    obtain ⟨b, off, e, hlt, hc⟩ := hr (by omega)
    cases e
    have hd := hc (j / 2) (by omega)
    have hg := cvD_get L (j / 2) (by omega)
    rw [show w.cell? ((⟨b, off, none⟩ : Addr).add j) = w.cell? ⟨b, off + j, none⟩ by rw [Go.WideShapes.add_plain]]
    rcases Nat.mod_two_eq_zero_or_one j with hm | hm
    · rw [show (cv L)[j]? = (cv L)[j / 2 * 2]? from congrArg (fun k => (cv L)[k]?) (by omega), hg.1] at hj
      cases hj
      rw [show off + j = off + j / 2 * 2 by omega]
      exact hd.1
    · rw [show (cv L)[j]? = (cv L)[j / 2 * 2 + 1]? from congrArg (fun k => (cv L)[k]?) (by omega), hg.2] at hj
      cases hj
      rw [show off + j = off + j / 2 * 2 + 1 by omega]
      exact hd.2
/-- a row that is owned is read -/
theorem own_crdD {w : World} {B : Nat} {v : Value} {L : List (Nat × Nat)} (h : w.ownsRow B 36 2 v L.length (cv L)) : ∃ ao cap, v = .slice ao L.length cap ∧ L.length ≤ cap ∧ CRd w ao L w.heap.size := by
  rcases h.2 with ⟨rfl, h0⟩ | ⟨g, cap, cur, rfl, hh⟩
  · exact ⟨none, 0, by rw [h0], by omega, fun hp => absurd hp (by omega)⟩
  · refine ⟨some ⟨g, 0, none⟩, cap, rfl, ?_, fun _ => ⟨g, 0, rfl, (h.lt g rfl).2, fun j hj => ?_⟩⟩
    · exact hh.2.2.1
    · obtain ⟨c0, c1⟩ := cvD_get L j hj
      have a0 := h.cells (g := g) rfl _ _ c0
      have a1 := h.cells (g := g) rfl _ _ c1
      rw [Go.WideShapes.add_plain] at a0 a1
      exact ⟨a0, by rw [Nat.add_assoc]; exact a1⟩
theorem lnE_mid (X Y Z : List (Nat × Nat)) (h : 0 < Y.length) : lnE (X ++ Y ++ Z) X.length (X.length + Y.length) = lnE Y 0 Y.length := by
  have e : (X ++ Y ++ Z).getD X.length (0, 0) = Y.getD 0 (0, 0) := by
    simp only [List.getD]
    rw [List.append_assoc, List.getElem?_append_right (Nat.le_refl _), Nat.sub_self, List.getElem?_append_left h]
  simp only [lnE, e]
  rw [if_pos ⟨by omega, by simp⟩, if_pos ⟨h, Nat.le_refl _⟩]
theorem lnP_mid (X Y Z : List (Nat × Nat)) (h : 0 < Y.length) (h0 : lnE Y 0 Y.length = 0) : lnP (X ++ Y ++ Z) X.length (X.length + Y.length) = (X.length, (lnP Y 0 Y.length).2) := by
  have e : (X ++ Y ++ Z).getD X.length (0, 0) = Y.getD 0 (0, 0) := by
    simp only [List.getD]
    rw [List.append_assoc, List.getElem?_append_right (Nat.le_refl _), Nat.sub_self, List.getElem?_append_left h]
  have hE : erV (Y.getD 0 (0, 0)).1 (Y.getD 0 (0, 0)).2 = 0 := by
    rw [lnE, if_pos ⟨h, Nat.le_refl _⟩] at h0; exact h0
  have e2 : ((X ++ Y ++ Z).drop X.length).take (X.length + Y.length - X.length) = Y := by
    rw [List.append_assoc, List.drop_left, Nat.add_sub_cancel_left, List.take_left]
  simp only [lnP, e, e2]
  rw [if_pos ⟨by omega, by simp, hE⟩, if_pos ⟨h, Nat.le_refl _, hE⟩]
  simp
theorem lnP_bad (L : List (Nat × Nat)) (a e : Nat) (h0 : ¬ lnE L a e = 0) : lnP L a e = (0, 0, 0, 0) := by
  unfold lnP
  rw [if_neg]
  rintro ⟨h1, h2, h3⟩
  exact h0 (by rw [lnE, if_pos ⟨h1, h2⟩]; exact h3)
end Go.Proofs.Ytdpghhkimnifjaa
namespace Go.Proofs.Ytdpghhkimnifjaa
open Go.RowKit Go.WideShapes Go.Shelf
set_option maxRecDepth 100000

def fzT (f : Fz) : Nat × Nat × Nat × Nat × Nat × Nat := (f.at_, f.len, f.kind, f.op, f.a, f.b)
theorem fzT_inj {f : Fz} {a b c d e g : Nat} (h : fzT f = (a, b, c, d, e, g)) : f = ⟨a, b, c, d, e, g⟩ := by
  obtain ⟨f0, f1, f2, f3, f4, f5⟩ := f
  simp only [fzT, Prod.mk.injEq] at h
  obtain ⟨rfl, rfl, rfl, rfl, rfl, rfl⟩ := h
  rfl
def zwL : List (Nat × Nat) := [(9, 8), (9, 8), (31, 0), (8, 1), (39, 0), (34, 0)]
theorem zwL_wf : Wfc zwL := by unfold Wfc zwL; decide +kernel
theorem zw1 : fzT (flV zwL 0 6) = (0, 6, 15, 39, 8, 1) ∧ flE zwL 0 6 = 0 := by decide +kernel
abbrev zwC : Array Value := #[.int .u8 9, .int .u32 8, .int .u8 9, .int .u32 8, .int .u8 31, .int .u32 0, .int .u8 8, .int .u32 1, .int .u8 39, .int .u32 0, .int .u8 34, .int .u32 0]
theorem zw1_call (b : Nat) (w : World) (h : w.heap[b]? = some (.cells zwC 36)) :
    Calls Try.prog 8 #[.slice (some ⟨b, 0, none⟩) 6 6, .int .u32 0, .int .u32 6] w fun x w' => x = .returned (.tuple #[.agg #[.int .u32 0, .int .u32 6, .int .u8 15, .int .u8 39, .int .u32 8, .int .u32 1], .int .i64 0]) ∧ Below w.heap.size w w' := by
  have := flongest_any (some ⟨b, 0, none⟩) 6 0 6 zwL w (by decide) (by decide) (by decide) (by decide) zwL_wf (crd_blkD h rfl)
  rw [fzT_inj zw1.1, zw1.2] at this
  exact this
set_option maxHeartbeats 1000000 in
theorem zawake_any (w : World) : Calls Try.prog 7 #[] w fun x w' => x = .returned (.bool true) ∧ Below w.heap.size w w' := by
  have hbd : Below w.heap.size w w := Below.refl _ _
  have H1 := dhid (fun o => zw1_call w.heap.size (w.alloc o))
  go_enter Try.func7, Try.ntmps7
  go_wp2_with fail
  with_reducible refine (H1.out _ ?_).mono ?_
  · exact heap_alloc_new w _
  rintro x w1 ⟨rfl, hb1⟩
  have hB1 := dhid ((hbd.alloc (Nat.le_refl _) _).trans (hb1.mono (by simp)))
  clear H1
  go_wp2_with fail
  go_ret
  exact ⟨rfl, hB1.out.alloc hB1.out.size _⟩
end Go.Proofs.Ytdpghhkimnifjaa
namespace Go.Proofs.Ytdpghhkimnifjaa
open Go.ChangeShapes Go.WideShapes Go.ChangeAt Go.RowKit

theorem Try.own : ownKnob Try.prog.godebug = none := by kernel_rfl
theorem Try.laidOut : laidOutB Try.prog = true := by kernel_rfl
theorem Try.cells5 : Try.prog.cellsOf 5 = 1 := by kernel_rfl
theorem Try.bytes5 : Try.prog.bytesOf 5 = 1 := by kernel_rfl
theorem int_wf {z : Int} (h : (Lit.int .i64 z).wf = true) : -9223372036854775808 ≤ z ∧ z ≤ 9223372036854775807 := by
  have h1 : IntKind.i64.min = -9223372036854775808 := rfl
  have h2 : IntKind.i64.max = 9223372036854775807 := rfl
  simp only [Lit.wf, Bool.and_eq_true, decide_eq_true_eq] at h
  omega
theorem byte_wf {z : Int} (h : (Lit.int .u8 z).wf = true) : 0 ≤ z ∧ z ≤ 255 := by
  simpa [Lit.wf, IntKind.min, IntKind.max, IntKind.signed, IntKind.bits] using h
theorem bulk_lits {H : Type} (k : IntKind) (zs : List Int) : Rows.uptoBulkAll (lits (H := H) k zs) = zs.length := by
  induction zs with
  | nil => rfl
  | cons z zs ih =>
    have e : lits (H := H) k (z :: zs) = .lit (.int k z) :: lits k zs := rfl
    rw [e]
    simp only [Rows.uptoBulkAll, Rows.uptoBulk, ih, List.length_cons]
    omega

/-- a slice of bytes that is handed in, or lies in what is -/
theorem bytes_cells {H : Type} {enc : TypeId × Value → H} {W : World} {fuel : Nat} {cs : List Value} {d : DataW H} {p : List MemPlace}
    (hf : DataW.trod enc Try.prog W 0 (fun _ => true) true fuel 25 cs = some (d, p)) (hlt : ∀ x ∈ p, x.block < W.heap.size) :
    ∃ (a0 : Option Addr) (cap : Nat) (zs : List Int), cs = [.slice a0 zs.length cap] ∧ zs.length ≤ cap ∧ (∀ z ∈ zs, 0 ≤ z ∧ z ≤ 255) ∧ Reads W a0 zs W.heap.size ∧ (d = .nil ∧ zs = [] ∨ ∃ sp, d = .slice (lits .u8 zs) (lits .u8 sp)) := by
  rcases open_ints Try.underlying25 Try.underlying5 Try.cells5 hf with ⟨hcs, hx⟩ | ⟨a, len, cap, zs, hcs, _, hl, hm, hz, hx, hcell, hwz⟩
  · simp only [Prod.mk.injEq] at hx
    exact ⟨none, 0, [], hcs, by simp, by simp, Reads.nil _ _ _, .inl ⟨hx.1, rfl⟩⟩
  · simp only [Prod.mk.injEq] at hx
    obtain ⟨rfl, rfl⟩ := hx
    simp only [if_true] at hz
    have hlz : (zs.take len).length = len := by simp; omega
    refine ⟨some a, cap, zs.take len, by rw [hlz]; exact hcs, by rw [hlz]; exact hl, fun z hz' => byte_wf (hwz z (List.mem_of_mem_take hz')), fun hpos => ?_, .inr ⟨_, rfl⟩⟩
    obtain ⟨b, off, spot⟩ := a
    have hspot : spot = none := by simpa [Addr.add] using World.cell?_spot (hcell 0 (by omega))
    subst hspot
    have hbW : b < W.heap.size := hlt (.cell b off) (MemPlace.mem_row.2 ⟨0, by omega, by simp⟩)
    refine ⟨b, off, rfl, hbW, fun j hj => ?_⟩
    rw [hlz] at hj
    rw [← add_plain, hcell j (by omega)]
    simp [hj]
theorem bytes_open {H : Type} {enc : TypeId × Value → H} {W : World} {a0 : Option Addr} {len cap : Nat} {d : DataW H} {p : List MemPlace}
    (h : DataW.Trod enc Try.prog W 0 (fun _ => true) true 25 (.slice a0 len cap) d p) (hlt : ∀ x ∈ p, x.block < W.heap.size) :
    ∃ zs : List Int, zs.length = len ∧ zs.length ≤ cap ∧ (∀ z ∈ zs, 0 ≤ z ∧ z ≤ 255) ∧ Reads W a0 zs W.heap.size ∧ (d = .nil ∧ zs = [] ∨ ∃ sp, d = .slice (lits .u8 zs) (lits .u8 sp)) := by
  obtain ⟨fuel, hf⟩ := h
  obtain ⟨a, c, zs, hcs, hcp, h1, h2, h3⟩ := bytes_cells hf hlt
  simp [Value.cells] at hcs
  obtain ⟨rfl, rfl, rfl⟩ := hcs
  exact ⟨zs, rfl, hcp, h1, h2, h3⟩
theorem quad_wf {z : Int} (h : (Lit.int .u64 z).wf = true) : 0 ≤ z ∧ z < 18446744073709551616 := by
  have h1 : IntKind.u64.min = 0 := rfl
  have h2 : IntKind.u64.max = 18446744073709551615 := rfl
  simp only [Lit.wf, Bool.and_eq_true, decide_eq_true_eq] at h
  omega
theorem word_wf {z : Int} (h : (Lit.int .u32 z).wf = true) : 0 ≤ z ∧ z ≤ 4294967295 := by
  simpa [Lit.wf, IntKind.min, IntKind.max, IntKind.signed, IntKind.bits] using h
theorem weightsAll_mem {H : Type} {P : Program} {e : TypeId} : ∀ {l : List (DataW H)} {d : DataW H}, d ∈ l → ∀ n ∈ d.weights P e, n ∈ DataW.weightsAll P e l
  | d' :: r, d, hd, n, hn => by
    simp only [DataW.weightsAll, List.mem_append]
    rcases List.mem_cons.1 hd with rfl | h
    · exact Or.inl hn
    · exact Or.inr (weightsAll_mem h n hn)
theorem lits_len {H : Type} (k : IntKind) (zs : List Int) : (lits (H := H) k zs).length = zs.length := by simp [lits]
end Go.Proofs.Ytdpghhkimnifjaa
namespace Go.Proofs.Ytdpghhkimnifjaa
open Go.ChangeShapes Go.WideShapes Go.ChangeAt Go.RowKit

theorem Try.cellsI2 : Try.prog.cellsOf 36 = 2 := by kernel_rfl
theorem Try.cellsO1 : Try.prog.cellsOf 28 = 1 := by kernel_rfl
theorem Try.cellsD1 : Try.prog.cellsOf 23 = 1 := by kernel_rfl
theorem Try.bytesI : Try.prog.bytesOf 36 = 8 := by kernel_rfl
theorem bulk_mem {H : Type} : ∀ {l : List (DataW H)} {d : DataW H}, d ∈ l → Rows.uptoBulk d ≤ Rows.uptoBulkAll l
  | d' :: r, d, hd => by
    simp only [Rows.uptoBulkAll]
    rcases List.mem_cons.1 hd with rfl | h
    · omega
    · have := bulk_mem h; omega
theorem bulk_len {H : Type} : ∀ (l : List (DataW H)), (∀ d ∈ l, 1 ≤ Rows.uptoBulk d) → l.length ≤ Rows.uptoBulkAll l
  | [], _ => by simp [Rows.uptoBulkAll]
  | d :: r, h => by
    have h1 := h d (by simp)
    have h2 := bulk_len r (fun x hx => h x (by simp [hx]))
    simp only [Rows.uptoBulkAll, List.length_cons]
    omega
theorem code_open {H : Type} {enc : TypeId × Value → H} {W : World} {a0 : Option Addr} {len cap : Nat} {d : DataW H} {p : List MemPlace}
    (h : DataW.Trod enc Try.prog W 0 (fun _ => true) true 22 (.slice a0 len cap) d p) (hlt : ∀ x ∈ p, x.block < W.heap.size) :
    ∃ L : List (Nat × Nat), L.length = len ∧ Wfc L ∧ CRd W a0 L W.heap.size ∧ (d = .nil ∧ L = [] ∨ ∃ l sp, d = .slice l sp ∧ l.length = L.length ∧ ∀ x ∈ l, 1 ≤ Rows.uptoBulk x) := by
  obtain ⟨fuel, hf⟩ := h
  rcases Go.Deep.open_slice_pairs Try.underlying22 Try.underlying36 Try.cellsI2 rfl rfl Try.cellsO1 Try.cellsD1 hf with ⟨hcs, hx⟩ | ⟨a, len', cap', m, n, V0, V1, D0, D1, P0, P1, hcs, _, hl, hm, hz, hx, hcell⟩
  · simp only [Prod.mk.injEq] at hx
    simp [Value.cells] at hcs
    obtain ⟨rfl, rfl, rfl⟩ := hcs
    exact ⟨[], rfl, fun p hp => by simp at hp, fun hp => by simp at hp, .inl ⟨hx.1, rfl⟩⟩
  · simp only [Prod.mk.injEq] at hx
    obtain ⟨rfl, rfl⟩ := hx
    simp [Value.cells] at hcs
    obtain ⟨rfl, rfl, rfl⟩ := hcs
    simp only [if_true] at hz
    subst hz
    have each : ∀ i, i < len → ∃ q : Nat × Nat, V0 i = .int .u8 q.1 ∧ V1 i = .int .u32 q.2 ∧ q.1 < 256 ∧ q.2 < 4294967296 := by
      intro i hi
      obtain ⟨_, _, g0, g1⟩ := hcell i (by omega)
      obtain ⟨s, e0, _, w0⟩ := DataW.trod_int Try.underlying28 g0
      obtain ⟨u, e1, _, w1⟩ := DataW.trod_int Try.underlying23 g1
      simp at e0 e1
      have h0 := byte_wf w0
      have h1 := word_wf w1
      exact ⟨(s.toNat, u.toNat), by rw [e0]; simp only []; rw [Int.toNat_of_nonneg h0.1], by rw [e1]; simp only []; rw [Int.toNat_of_nonneg h1.1], by simp only []; omega, by simp only []; omega⟩
    obtain ⟨f, hfx⟩ : ∃ f : Nat → Nat × Nat, ∀ i, i < len → V0 i = .int .u8 (f i).1 ∧ V1 i = .int .u32 (f i).2 ∧ (f i).1 < 256 ∧ (f i).2 < 4294967296 :=
      ⟨fun i => if hi : i < len then (each i hi).choose else (0, 0), fun i hi => by simp only [hi, dite_true]; exact (each i hi).choose_spec⟩
    have hgd : ∀ j, j < len → ((List.range len).map f).getD j (0, 0) = f j := fun j hj => by simp [hj]
    refine ⟨(List.range len).map f, by simp, ?_, ?_, .inr ⟨_, _, rfl, by simp, ?_⟩⟩
    · intro p hp
      obtain ⟨i, hi, rfl⟩ := List.mem_map.1 hp
      exact (hfx i (List.mem_range.1 hi)).2.2
    · intro hpos
      simp at hpos
      obtain ⟨b, off, spot⟩ := a
      have hspot : spot = none := by simpa [Addr.add] using World.cell?_spot (hcell 0 (by omega)).1
      subst hspot
      have hbW : b < W.heap.size := hlt (.cell b off) (List.mem_append_left _ (MemPlace.mem_row.2 ⟨0, by omega, by simp⟩))
      refine ⟨b, off, rfl, hbW, fun j hj => ?_⟩
      simp at hj
      obtain ⟨c0, c1, _, _⟩ := hcell j (by omega)
      obtain ⟨e0, e1, _, _⟩ := hfx j hj
      rw [add_plain] at c0 c1
      rw [hgd j hj]
      exact ⟨by rw [c0, e0], by rw [Nat.add_assoc, c1, e1]⟩
    · intro x hx
      obtain ⟨i, _, rfl⟩ := List.mem_map.1 hx
      simp only [Rows.uptoBulk, Rows.uptoBulkAll]
      omega
end Go.Proofs.Ytdpghhkimnifjaa
