import Derived.Test.YtldeodnlppjbcaaLMark
import Derived.Deep.AppendLies
import Derived.Deep.RegionWith
import Derived.WideShapes
import Derived.Test.YtldeodnlppjbcaaCKGg
import Derived.Deep.RegionHeld3
import Derived.Deep.MidRow
namespace Go.Proofs.Ytldeodnlppjbcaa
open Go.RowKit

theorem Try.infoL : (Try.prog.info? 48).map (fun i => (i.zero, i.size, i.bytes)) = some (some (.slice none 0 0), 1, 24) := by kernel_rfl

theorem rows_type {w : World} {B B' e e' s s' n n' : Nat} {v v' : Value} {xs xs' : List Value} (he : e ≠ e') (h : w.ownsRow B e s v n xs) (h' : w.ownsRow B' e' s' v' n' xs') : v.ownBlock = none ∨ v.ownBlock ≠ v'.ownBlock := by
  rcases h.2 with ⟨rfl, _⟩ | ⟨g, cap, cur, rfl, _, hg, _⟩
  · exact .inl rfl
  · right
    rcases h'.2 with ⟨rfl, _⟩ | ⟨g', cap', cur', rfl, _, hg', _⟩
    · simp [Value.ownBlock]
    · intro e1
      simp only [Value.ownBlock, Option.some.injEq] at e1
      subst e1
      rw [hg] at hg'
      simp only [Option.some.injEq, Obj.cells.injEq] at hg'
      exact he hg'.2.1
theorem own_form0' {w : World} {B e sz : Nat} {v : Value} {n : Nat} {xs : List Value} (h : w.ownsRow B e sz v n xs) : ∃ a c, v = .slice a n c := by
  rcases h.2 with ⟨rfl, hz⟩ | ⟨g, cap, cur, rfl, _⟩
  · exact ⟨none, 0, by rw [hz]⟩
  · exact ⟨_, _, rfl⟩
theorem own_pos' {w : World} {B e sz : Nat} {a : Option Addr} {n c : Nat} {xs : List Value} (h : w.ownsRow B e sz (.slice a n c) n xs) (hn : 0 < n) : ∃ g, a = some ⟨g, 0, none⟩ := by
  rcases h.2 with ⟨_, hz⟩ | ⟨g, cap, cur, e, _⟩
  · omega
  · simp only [Value.slice.injEq] at e; exact ⟨g, e.1⟩
theorem own_at {w : World} {B e g n c : Nat} {vals : Nat → Value} (h : w.ownsRow B e 1 (.slice (some ⟨g, 0, none⟩) n c) n ((List.range n).map vals)) {k : Nat} (hk : k < n) : w.cell? ⟨g, k, none⟩ = some (vals k) := by
  have := h.cells (g := g) rfl k (vals k) (by simp [hk])
  rwa [Go.WideShapes.add_plain, Nat.zero_add] at this

/-- lists of bytes of our own, each in memory of its own -/
structure OwnL (w : World) (B : Nat) (lo : Option Addr) (lc n : Nat) (vals : Nat → Value) (Z : Nat → List Int) : Prop where
  row : w.ownsRow B 48 1 (.slice lo n lc) n ((List.range n).map vals)
  each : ∀ i, i < n → w.ownsRow B 5 1 (vals i) (Z i).length (bv (Z i))
  apart : ∀ i j, i < n → j < n → i ≠ j → (vals i).ownBlock = none ∨ (vals i).ownBlock ≠ (vals j).ownBlock
theorem OwnL.drew {w : World} {B : Nat} {lo : Option Addr} {lc n : Nat} {vals : Nat → Value} {Z : Nat → List Int} (h : OwnL w B lo lc n vals Z) : OwnL w.drew B lo lc n vals Z :=
  ⟨h.row.drew, fun i hi => (h.each i hi).drew, h.apart⟩
/-- nothing but the lists' own memory has changed -/
structure Touch (n : Nat) (vals : Nat → Value) (w w' : World) : Prop where
  os : w'.os = w.os
  tape : w'.tape = w.tape
  output : w'.output = w.output
  size : w.heap.size ≤ w'.heap.size
  block : ∀ b, b < w.heap.size → (∀ i, i < n → (vals i).ownBlock ≠ some b) → w'.heap[b]? = w.heap[b]?
theorem Touch.refl (n : Nat) (vals : Nat → Value) (w : World) : Touch n vals w w := ⟨rfl, rfl, rfl, Nat.le_refl _, fun _ _ _ => rfl⟩
theorem Touch.trans {n : Nat} {vals : Nat → Value} {w w1 w2 : World} (h : Touch n vals w w1) (h' : Touch n vals w1 w2) : Touch n vals w w2 :=
  ⟨h'.os.trans h.os, h'.tape.trans h.tape, h'.output.trans h.output, Nat.le_trans h.size h'.size, fun b hb hn => (h'.block b (Nat.lt_of_lt_of_le hb h.size) hn).trans (h.block b hb hn)⟩
theorem Touch.of_below {n : Nat} {vals : Nat → Value} {w w1 : World} (h : Below w.heap.size w w1) : Touch n vals w w1 := ⟨h.os, h.tape, h.output, h.size, fun b hb _ => h.block b hb⟩
theorem Touch.below {n B : Nat} {vals : Nat → Value} {w w1 : World} (h : Touch n vals w w1) (hB : B ≤ w.heap.size) (hv : ∀ i b, i < n → (vals i).ownBlock = some b → B ≤ b) : Below B w w1 :=
  ⟨h.os, h.tape, h.output, h.size, fun b hb => h.block b (Nat.lt_of_lt_of_le hb hB) (fun i hi e => by have := hv i b hi e; omega)⟩
theorem Touch.of_grown {n k : Nat} {vals : Nat → Value} {w w1 : World} (hk : k < n) (h : w.grownBy w1 (vals k).ownBlock) : Touch n vals w w1 :=
  ⟨h.os, h.tape, h.output, h.size, fun b hb hn => h.block b hb (fun e => hn k hk e.symm)⟩

/-- a row of bytes begins so -/
def RowHas (w : World) (b : Nat) (L : List Int) : Prop := ∃ cur, w.heap[b]? = some (.cells cur 5) ∧ ∀ i, i < L.length → cur[i]? = some (.int .u8 (L.getD i 0))
theorem RowHas.of_own {w : World} {B g n cap : Nat} {L M : List Int} (h : w.ownsRow B 5 1 (.slice (some ⟨g, 0, none⟩) n cap) n (bv L)) (hM : M = L.take M.length) : RowHas w g M := by
  have hn : (bv L).length = n * 1 := h.1
  rcases h.2 with ⟨e, _⟩ | ⟨g', cap', cur, e, _, hg, _, _, _, ht⟩
  · simp at e
  · simp only [Value.slice.injEq, Option.some.injEq, Addr.mk.injEq, and_true, true_and] at e
    obtain ⟨rfl, rfl⟩ := e
    refine ⟨cur, hg, fun i hi => ?_⟩
    have hML : M.length ≤ L.length := by
      have := congrArg List.length hM
      simp at this
      omega
    have e1 : (cur.toList.take (n * 1))[i]? = (bv L)[i]? := by rw [ht]
    rw [bv_len] at hn
    rw [List.getElem?_take, if_pos (by omega), Array.getElem?_toList] at e1
    rw [e1, hM]
    simp [bv, hi, show i < L.length by omega]
theorem RowHas.cell {w : World} {b : Nat} {L : List Int} (h : RowHas w b L) {i : Nat} (hi : i < L.length) : w.cell? ⟨b, i, none⟩ = some (.int .u8 (L.getD i 0)) := by
  obtain ⟨cur, hb, hc⟩ := h
  simp [World.cell?, hb, hc i hi]
theorem RowHas.lt {w : World} {b : Nat} {L : List Int} (h : RowHas w b L) : b < w.heap.size := by
  obtain ⟨cur, hb, _⟩ := h
  exact (Array.getElem?_eq_some_iff.1 hb).1
theorem RowHas.block {w w' : World} {b : Nat} {L : List Int} (h : RowHas w b L) (he : w'.heap[b]? = w.heap[b]?) : RowHas w' b L := by
  obtain ⟨cur, hb, hc⟩ := h
  exact ⟨cur, he.trans hb, hc⟩
theorem RowHas.grown {w w' : World} {b : Nat} {L : List Int} {row : Option Nat} {o : Obj} (h : RowHas w b L) (hg : (w.alloc o).grownBy w' row) (hne : row ≠ some b) : RowHas w' b L := by
  exact h.block ((hg.block b (by have := h.lt; simp; omega) (fun e => hne e.symm)).trans (heap_alloc_old w o h.lt))
theorem RowHas.type {w : World} {b B e n : Nat} {L : List Int} {v : Value} {xs : List Value} (h : RowHas w b L) (he : e ≠ 5) (h' : w.ownsRow B e 1 v n xs) : v.ownBlock ≠ some b := by
  intro hb
  obtain ⟨cur, h1, _⟩ := h
  rcases h'.2 with ⟨rfl, _⟩ | ⟨g', cap', cur', rfl, _, hg', _⟩
  · simp [Value.ownBlock] at hb
  · simp only [Value.ownBlock, Option.some.injEq] at hb
    subst hb
    rw [h1] at hg'
    simp only [Option.some.injEq, Obj.cells.injEq] at hg'
    exact he hg'.2.1.symm

/-- one byte is put behind a row of our own: where the row moves, nothing else has changed -/
theorem wpList_append_keep {w : World} {ops : Array Oper} {rest : List Oper} {o : Oper} {a : Act} {Q : Exit → Act → World → Prop} (hgd : o.guard = none) (s x : Operand)
    (ho : o.op = .call { callee := .builtin .append, args := #[s, x], argTypes := #[48, 48] })
    (base : Nat) (i : TypeInfo) (hi : Try.prog.info? 5 = some i) (hz : i.zero = some (.int .u8 0)) (hsize : i.size = 1) (hby : i.bytes = 1)
    (v : Value) (n : Nat) (xs : List Value) (hs : a.eval s = v) (hown : w.ownsRow base 5 1 v n xs)
    (ad : Addr) (c : Nat) (u : Value) (hx : a.eval x = .slice (some ad) 1 c) (hnews : w.cell? (ad.add 0) = some u) (h1 : u.oneCell' = true)
    (hbytes : n + 1 ≤ 140737488355328) (hbase : base ≤ w.heap.size)
    (h : ∀ g cap w', w'.ownsRow base 5 1 (.slice (some ⟨g, 0, none⟩) (n + 1) cap) (n + 1) (xs ++ [u]) → (v.ownBlock = some g ∧ w.grownBy w' (some g) ∨ g = w.heap.size ∧ w.grownBy w' none) → wpList Try.prog ops Q rest (a.put o.dst (.slice (some ⟨g, 0, none⟩) (n + 1) cap)) w') :
    wpList Try.prog ops Q (o :: rest) a w := by
  have hnews' : ∀ j u', [u][j]? = some u' → w.cell? (ad.add j) = some u' := by
    intro j u' hj
    match j, hj with
    | 0, hj => simp at hj; rw [← hj]; exact hnews
  have h63 : n + 1 ≤ maxLen := by unfold maxLen; omega
  obtain ⟨g, cap, w', hr, h2, h3, h4, _⟩ := run_append_lies (P := Try.prog) w 48 o.type base 5 i (.int .u8 0) 1 1 Try.underlying48 hi hz hsize hby rfl (by decide) v n xs hown ad 1 c [u] rfl hnews' (by simpa using h1) (by decide) h63 (by omega) hbase _ rfl
  have hor : v.ownBlock = some g ∧ w.grownBy w' (some g) ∨ g = w.heap.size ∧ w.grownBy w' none := by
    rcases hown.2 with ⟨rfl, _⟩ | ⟨g', cap', cur, rfl, _, hg, hnc, hcm, hcs, _⟩
    · right
      rcases h4 with h4 | h4
      · simp [Value.ownBlock] at h4
      · exact ⟨h4, h3⟩
    · by_cases hroom : n + 1 ≤ cap'
      · left
        have hr2 := run_append_room (P := Try.prog) w 48 o.type 5 i Try.underlying48 hi g' n cap' cur hg ad 1 c [u] (by rw [hsize]; rfl) hnews' (by simpa using h1) hroom (by rw [hsize]; simp; omega)
        rw [hr] at hr2
        injection hr2 with e1 _
        simp only [Value.slice.injEq, Option.some.injEq, Addr.mk.injEq, and_true, true_and] at e1
        obtain ⟨rfl, _⟩ := e1
        exact ⟨rfl, h3⟩
      · right
        have hr2 := run_append_grow (P := Try.prog) w 48 o.type 5 i (.int .u8 0) Try.underlying48 hi hz ⟨g', 0, none⟩ n cap' xs (by rw [hsize]; exact hown.1) (hown.cells (g := g') rfl) ad 1 c [u] (by rw [hsize]; rfl) hnews' (by omega) (by omega) (by rw [hby]; exact growslice_fits (by omega) (by omega))
        rw [hr] at hr2
        injection hr2 with e1 e2
        simp only [Value.slice.injEq, Option.some.injEq, Addr.mk.injEq, and_true, true_and] at e1
        exact ⟨e1.1, by rw [e2]; exact ⟨rfl, rfl, rfl, by simp, fun k hk _ => heap_alloc_old w.drew _ hk⟩⟩
  refine wpList_plain hgd fun K hK => ?_
  unfold Oper.wp execOp
  simp only [ho, resolve, invoke, builtin, Sem.run_bind, Sem.run_pure, Result.andThen_ok, List.map_toArray, List.map_cons, List.map_nil, hs, hx, hr]
  exact hK _ _ (h g cap w' h2 hor)

def upd (Z : Nat → List Int) (k : Nat) (L : List Int) : Nat → List Int := fun j => if j = k then L else Z j
theorem upd_same (Z : Nat → List Int) (k : Nat) (L : List Int) : upd Z k L k = L := by simp [upd]
theorem upd_other (Z : Nat → List Int) {k j : Nat} (L : List Int) (h : ¬ j = k) : upd Z k L j = Z j := by simp [upd, h]

theorem mset (k : Int) (L : List Int) (i : Nat) (h : i < L.length) : bv (marks k (i + 1) ++ L.drop (i + 1)) = (bv (marks k i ++ L.drop i)).set i (.int .u8 (mk k i)) := by
  have hl := marks_len k i
  rw [marks_succ, List.drop_eq_getElem_cons h]
  simp only [bv, List.map_append, List.map_cons, List.append_assoc, List.cons_append, List.nil_append]
  rw [List.set_append_right _ _ (by simp [hl])]
  simp [hl]

theorem Touch.alloc_grown {n : Nat} {vals : Nat → Value} {w0 wr w5 : World} {o : Obj} {row : Option Nat} (hT : Touch n vals w0 wr) (hg : (wr.alloc o).grownBy w5 row) (hrow : ∀ b, row = some b → (∃ i, i < n ∧ (vals i).ownBlock = some b) ∨ w0.heap.size ≤ b) : Touch n vals w0 w5 := by
  refine ⟨hg.os.trans hT.os, hg.tape.trans hT.tape, hg.output.trans hT.output, Nat.le_trans hT.size (Nat.le_trans (by simp) hg.size), fun b hb hn => ?_⟩
  have hb' : b < wr.heap.size := Nat.lt_of_lt_of_le hb hT.size
  refine ((hg.block b (by simp; omega) (fun e => ?_)).trans (heap_alloc_old wr o hb')).trans (hT.block b hb hn)
  rcases hrow b e.symm with ⟨i, hi, hv⟩ | h
  · exact hn i hi hv
  · omega

def gval (ℓ gb gc : Nat → Nat) (j : Nat) : Value := .slice (some ⟨gb j, 0, none⟩) (ℓ j + 64) (gc j)
structure StQ (w0 : World) (B : Nat) (lo : Option Addr) (lc n : Nat) (vals : Nat → Value) (ℓ : Nat → Nat) (k k' : Nat) (gb gc : Nat → Nat) (vgs : Value) (wr : World) : Prop where
  ls : wr.ownsRow B 48 1 (.slice lo n lc) n ((List.range n).map vals)
  gs : wr.ownsRow B 48 1 vgs k ((List.range k).map (gval ℓ gb gc))
  lg : (Value.slice lo n lc).ownBlock = none ∨ (Value.slice lo n lc).ownBlock ≠ vgs.ownBlock
  gf : ∀ b, vgs.ownBlock = some b → w0.heap.size ≤ b
  rest : ∀ j, k' ≤ j → j < n → wr.ownsRow B 5 1 (vals j) (ℓ j) (bv (marks ((j : Int) + 1) (ℓ j)))
  old : ∀ j, j < k' → ∀ b, (vals j).ownBlock = some b → RowHas wr b (marks ((j : Int) + 1) (ℓ j))
  new : ∀ j, j < k → RowHas wr (gb j) (marks ((j : Int) + 1) (ℓ j + 64)) ∧ ∀ i, i < n → i ≠ j → (vals i).ownBlock ≠ some (gb j)
  tch : Touch n vals w0 wr
theorem StQ.same {w0 wr w5 : World} {B : Nat} {lo : Option Addr} {lc n : Nat} {vals : Nat → Value} {ℓ gb gc : Nat → Nat} {k k' : Nat} {vgs : Value} {o : Obj} (h : StQ w0 B lo lc n vals ℓ k k' gb gc vgs wr) (hg : (wr.alloc o).grownBy w5 none) : StQ w0 B lo lc n vals ℓ k k' gb gc vgs w5 :=
  ⟨(h.ls.alloc o).kept hg (by cases hq : (Value.slice lo n lc).ownBlock <;> simp), (h.gs.alloc o).kept hg (by cases hq : vgs.ownBlock <;> simp), h.lg, h.gf,
    fun j h1 h2 => ((h.rest j h1 h2).alloc o).kept hg (by cases hq : (vals j).ownBlock <;> simp), fun j h1 b hb => (h.old j h1 b hb).grown hg (by simp), fun j h1 => ⟨(h.new j h1).1.grown hg (by simp), (h.new j h1).2⟩,
    h.tch.alloc_grown hg (fun b e => by cases e)⟩
theorem StQ.place {w0 wr w5 : World} {B : Nat} {lo : Option Addr} {lc n : Nat} {vals : Nat → Value} {ℓ gb gc : Nat → Nat} {k g m c c5 : Nat} {vgs : Value} {o : Obj} {L : List Int} (h : StQ w0 B lo lc n vals ℓ k (k + 1) gb gc vgs wr)
    (hk : k < n) (hv : wr.ownsRow B 5 1 (.slice (some ⟨g, 0, none⟩) m c) m (bv L)) (hg : (wr.alloc o).grownBy w5 (some g)) (h5 : w5.ownsRow B 5 1 (.slice (some ⟨g, 0, none⟩) (m + 1) c5) (m + 1) (bv (marks ((k : Int) + 1) (m + 1)))) (hm : ℓ k ≤ m)
    (hc1 : ∀ j, j < n → j ≠ k → (vals j).ownBlock ≠ some g) (hc2 : ∀ j, j < k → gb j ≠ g) (hd : (vals k).ownBlock = some g ∨ w0.heap.size ≤ g) : StQ w0 B lo lc n vals ℓ k (k + 1) gb gc vgs w5 := by
  refine ⟨(h.ls.alloc o).kept hg ?_, (h.gs.alloc o).kept hg ?_, h.lg, h.gf, fun j h1 h2 => ((h.rest j h1 h2).alloc o).kept hg (.inr (hc1 j h2 (by omega))), fun j h1 b hb => ?_, fun j h1 => ⟨(h.new j h1).1.grown hg ?_, (h.new j h1).2⟩, h.tch.alloc_grown hg ?_⟩
  · have := rows_type (e := 48) (e' := 5) (by decide) h.ls hv
    simpa [Value.ownBlock] using this
  · have := rows_type (e := 48) (e' := 5) (by decide) h.gs hv
    simpa [Value.ownBlock] using this
  · by_cases hbg : b = g
    · subst hbg
      have hjk : j = k := Classical.byContradiction fun hne => hc1 j (by omega) hne hb
      subst hjk
      refine RowHas.of_own h5 ?_
      rw [marks_len, show m + 1 = ℓ j + (m + 1 - ℓ j) by omega]
      exact marks_take _ _ _
    · exact (h.old j h1 b hb).grown hg (fun e => hbg (by simpa using e.symm))
  · exact fun e => hc2 j h1 (by simpa using e.symm)
  · intro b e
    simp only [Option.some.injEq] at e
    subst e
    rcases hd with hd | hd
    · exact .inl ⟨k, hk, hd⟩
    · exact .inr hd

end Go.Proofs.Ytldeodnlppjbcaa
namespace Go.Proofs.Ytldeodnlppjbcaa
open Go.RowKit

theorem hao (w : World) (o : Obj) {r : Nat} (h : r < w.heap.size) : (w.alloc o).heap[r]? = w.heap[r]? := by
  first | exact heap_alloc_old w o h | exact heap_alloc_old w o _ h
theorem bel {a w : World} {o : Obj} (h : Below a.heap.size a w) : Below a.heap.size a (w.alloc o) := h.alloc h.size o
theorem Try.infoKL : (Try.prog.info? 24).map (fun i => (i.zero, i.size, i.bytes)) = some (some (.slice none 0 0), 1, 24) := by kernel_rfl
def td0 : Tt := (0, 0, ⟨#[]⟩)
theorem tw_len (L : List Tt) : (tw L).length = L.length * 3 := by
  induction L with
  | nil => rfl
  | cons x L ih => show (tw L).length + 1 + 1 + 1 = _; rw [ih]; simp; omega
theorem tw_one (x : Tt) : tw [x] = [.int .u8 x.1, .int .i64 x.2.1, .string x.2.2] := rfl
theorem tw_get (L : List Tt) (i : Nat) (h : i < L.length) : (tw L)[i * 3]? = some (.int .u8 (L.getD i td0).1) ∧ (tw L)[i * 3 + 1]? = some (.int .i64 (L.getD i td0).2.1) ∧ (tw L)[i * 3 + 2]? = some (.string (L.getD i td0).2.2) := by
  have := tw_at L i (L.getD i td0) (by simp [List.getD, h])
  exact this
def mkC (k i : Nat) : Tt := (99, 1000003 * (k + 1) + i, ⟨#[]⟩)
def mks (k m : Nat) : List Tt := (List.range m).map (mkC k)
theorem mks_succ (k m : Nat) : mks k (m + 1) = mks k m ++ [mkC k m] := by unfold mks; rw [List.range_succ, List.map_append]; rfl
theorem mks_len (k m : Nat) : (mks k m).length = m := by simp [mks]
theorem mks_getD (k m i : Nat) (h : i < m) : (mks k m).getD i td0 = mkC k i := by simp [mks, h]
theorem mks_take (k m d : Nat) : mks k m = (mks k (m + d)).take m := by
  unfold mks
  rw [← List.map_take, List.take_range, Nat.min_eq_left (by omega)]
set_option maxRecDepth 100000 in
set_option maxHeartbeats 1000000 in
theorem markC_any (k i : Nat) (w : World) (hk : k ≤ 41) (hi : i ≤ 134217728) :
    Calls Try.prog 20 #[.int .i64 ((k : Nat) : Int), .int .i64 ((i : Nat) : Int)] w fun e w' => e = .returned (.agg #[.int .u8 99, .int .i64 ((mkC k i).2.1 : Nat), .string ⟨#[]⟩]) ∧ w' = w.alloc (.cells #[.int .u8 99, .int .i64 ((mkC k i).2.1 : Nat), .string ⟨#[]⟩] 36) := by
  have e2 : (((mkC k i).2.1 : Nat) : Int) = 1000003 * ((k : Int) + 1) + (i : Int) := by simp [mkC]
  rw [e2]
  have hkI : (k : Int) ≤ 41 := by omega
  have hk0 : (0 : Int) ≤ (k : Int) := by omega
  have hiI : (i : Int) ≤ 134217728 := by omega
  have hi0 : (0 : Int) ≤ (i : Int) := by omega
  clear hk hi e2
  generalize (k : Int) = kk at *
  generalize (i : Int) = ii at *
  go_enter Try.func20, Try.ntmps20
  go_wp2
  obtain ⟨fs, hu⟩ := undTk
  exact bodyPost_ret (results_cell_row (p := 4) (ty := 36) (by kernel_rfl) _ _ w.heap.size 36 #[.int .u8 99, .int .i64 (1000003 * (kk + 1) + ii), .string ⟨#[]⟩] (0, 0) _ rfl (heap_alloc_last w _) hu rfl (by rw [infoTk]; rfl)) rfl ⟨rfl, rfl⟩

/-- lists of instructions of our own, each in memory of its own -/
structure OwnC (w : World) (B : Nat) (lo : Option Addr) (lc n : Nat) (vals : Nat → Value) (Z : Nat → List Tt) : Prop where
  row : w.ownsRow B 24 1 (.slice lo n lc) n ((List.range n).map vals)
  each : ∀ i, i < n → w.ownsRow B 36 3 (vals i) (Z i).length (tw (Z i))
  apart : ∀ i j, i < n → j < n → i ≠ j → (vals i).ownBlock = none ∨ (vals i).ownBlock ≠ (vals j).ownBlock
theorem OwnC.drew {w : World} {B : Nat} {lo : Option Addr} {lc n : Nat} {vals : Nat → Value} {Z : Nat → List Tt} (h : OwnC w B lo lc n vals Z) : OwnC w.drew B lo lc n vals Z :=
  ⟨h.row.drew, fun i hi => (h.each i hi).drew, h.apart⟩
theorem OwnC.alloc {w : World} {B : Nat} {lo : Option Addr} {lc n : Nat} {vals : Nat → Value} {Z : Nat → List Tt} (h : OwnC w B lo lc n vals Z) (o : Obj) : OwnC (w.alloc o) B lo lc n vals Z :=
  ⟨h.row.alloc o, fun i hi => (h.each i hi).alloc o, h.apart⟩
theorem Touch.alloc {n : Nat} {vals : Nat → Value} {w w1 : World} (h : Touch n vals w w1) (o : Obj) : Touch n vals w (w1.alloc o) :=
  h.trans ⟨rfl, rfl, rfl, by simp, fun b hb _ => hao w1 o hb⟩

/-- a row of instructions begins so -/
def RowC (w : World) (b : Nat) (L : List Tt) : Prop := ∃ cur, w.heap[b]? = some (.cells cur 36) ∧ ∀ i, i < L.length → cur[i * 3]? = some (.int .u8 (L.getD i td0).1) ∧ cur[i * 3 + 1]? = some (.int .i64 (L.getD i td0).2.1) ∧ cur[i * 3 + 2]? = some (.string (L.getD i td0).2.2)
theorem RowC.of_own {w : World} {B g n cap : Nat} {L M : List Tt} (h : w.ownsRow B 36 3 (.slice (some ⟨g, 0, none⟩) n cap) n (tw L)) (hM : M = L.take M.length) : RowC w g M := by
  have hn : (tw L).length = n * 3 := h.1
  rcases h.2 with ⟨e, _⟩ | ⟨g', cap', cur, e, _, hg, _, _, _, ht⟩
  · simp at e
  · simp only [Value.slice.injEq, Option.some.injEq, Addr.mk.injEq, and_true, true_and] at e
    obtain ⟨rfl, rfl⟩ := e
    refine ⟨cur, hg, fun i hi => ?_⟩
    have hML : M.length ≤ L.length := by
      have := congrArg List.length hM
      simp at this
      omega
    rw [tw_len] at hn
    obtain ⟨c0, c1, c2⟩ := tw_get L i (by omega)
    have e0 : (cur.toList.take (n * 3))[i * 3]? = (tw L)[i * 3]? := by rw [ht]
    have e1 : (cur.toList.take (n * 3))[i * 3 + 1]? = (tw L)[i * 3 + 1]? := by rw [ht]
    have e2 : (cur.toList.take (n * 3))[i * 3 + 2]? = (tw L)[i * 3 + 2]? := by rw [ht]
    rw [List.getElem?_take, if_pos (by omega), Array.getElem?_toList] at e0 e1 e2
    have eg : M.getD i td0 = L.getD i td0 := by
      rw [hM]
      simp [List.getD_eq_getElem?_getD, hi]
    rw [e0, e1, e2, c0, c1, c2, eg]
    exact ⟨rfl, rfl, rfl⟩
theorem RowC.cell {w : World} {b : Nat} {L : List Tt} (h : RowC w b L) {i : Nat} (hi : i < L.length) : w.cell? ⟨b, i * 3, none⟩ = some (.int .u8 (L.getD i td0).1) ∧ w.cell? ⟨b, i * 3 + 1, none⟩ = some (.int .i64 (L.getD i td0).2.1) ∧ w.cell? ⟨b, i * 3 + 2, none⟩ = some (.string (L.getD i td0).2.2) := by
  obtain ⟨cur, hb, hc⟩ := h
  simp [World.cell?, hb, (hc i hi).1, (hc i hi).2.1, (hc i hi).2.2]
theorem RowC.lt {w : World} {b : Nat} {L : List Tt} (h : RowC w b L) : b < w.heap.size := by
  obtain ⟨cur, hb, _⟩ := h
  exact (Array.getElem?_eq_some_iff.1 hb).1
theorem RowC.block {w w' : World} {b : Nat} {L : List Tt} (h : RowC w b L) (he : w'.heap[b]? = w.heap[b]?) : RowC w' b L := by
  obtain ⟨cur, hb, hc⟩ := h
  exact ⟨cur, he.trans hb, hc⟩
theorem RowC.alloc {w : World} {b : Nat} {L : List Tt} (h : RowC w b L) (o : Obj) : RowC (w.alloc o) b L := h.block (hao w o h.lt)
theorem RowC.grown {w w' : World} {b : Nat} {L : List Tt} {row : Option Nat} {o : Obj} (h : RowC w b L) (hg : (w.alloc o).grownBy w' row) (hne : row ≠ some b) : RowC w' b L := by
  exact h.block ((hg.block b (by have := h.lt; simp; omega) (fun e => hne e.symm)).trans (hao w o h.lt))
theorem RowC.type {w : World} {b B e n : Nat} {L : List Tt} {v : Value} {xs : List Value} (h : RowC w b L) (he : e ≠ 36) (h' : w.ownsRow B e 1 v n xs) : v.ownBlock ≠ some b := by
  intro hb
  obtain ⟨cur, h1, _⟩ := h
  rcases h'.2 with ⟨rfl, _⟩ | ⟨g', cap', cur', rfl, _, hg', _⟩
  · simp [Value.ownBlock] at hb
  · simp only [Value.ownBlock, Option.some.injEq] at hb
    subst hb
    rw [h1] at hg'
    simp only [Option.some.injEq, Obj.cells.injEq] at hg'
    exact he hg'.2.1.symm

/-- one instruction is put behind a row of our own: where the row moves, nothing else has changed -/
theorem wpList_append_keepC {w : World} {ops : Array Oper} {rest : List Oper} {o : Oper} {a : Act} {Q : Exit → Act → World → Prop} (hgd : o.guard = none) (s x : Operand)
    (ho : o.op = .call { callee := .builtin .append, args := #[s, x], argTypes := #[24, 24] })
    (base : Nat) (i : TypeInfo) (hi : Try.prog.info? 36 = some i) (hz : i.zero = some (.agg #[.int .u8 0, .int .i64 0, .string ⟨#[]⟩])) (hsize : i.size = 3) (hby : i.bytes = 32)
    (v : Value) (n : Nat) (xs : List Value) (hs : a.eval s = v) (hown : w.ownsRow base 36 3 v n xs)
    (ad : Addr) (c : Nat) (us : List Value) (hx : a.eval x = .slice (some ad) 1 c) (hus : us.length = 3) (hnews : ∀ j u', us[j]? = some u' → w.cell? (ad.add j) = some u') (h1 : ∀ u ∈ us, u.oneCell' = true)
    (hbytes : (n + 1) * 32 ≤ 140737488355328) (hbase : base ≤ w.heap.size)
    (h : ∀ g cap w', w'.ownsRow base 36 3 (.slice (some ⟨g, 0, none⟩) (n + 1) cap) (n + 1) (xs ++ us) → (v.ownBlock = some g ∧ w.grownBy w' (some g) ∨ g = w.heap.size ∧ w.grownBy w' none) → wpList Try.prog ops Q rest (a.put o.dst (.slice (some ⟨g, 0, none⟩) (n + 1) cap)) w') :
    wpList Try.prog ops Q (o :: rest) a w := by
  have h63 : n + 1 ≤ maxLen := by unfold maxLen; omega
  obtain ⟨g, cap, w', hr, h2, h3, h4, _⟩ := run_append_lies (P := Try.prog) w 24 o.type base 36 i (.agg #[.int .u8 0, .int .i64 0, .string ⟨#[]⟩]) 3 32 Try.underlying24 hi hz hsize hby rfl (by decide) v n xs hown ad 1 c us hus hnews h1 (by decide) h63 (by omega) hbase _ rfl
  have hor : v.ownBlock = some g ∧ w.grownBy w' (some g) ∨ g = w.heap.size ∧ w.grownBy w' none := by
    rcases hown.2 with ⟨rfl, _⟩ | ⟨g', cap', cur, rfl, _, hg, hnc, hcm, hcs, _⟩
    · right
      rcases h4 with h4 | h4
      · simp [Value.ownBlock] at h4
      · exact ⟨h4, h3⟩
    · by_cases hroom : n + 1 ≤ cap'
      · left
        have hr2 := run_append_room (P := Try.prog) w 24 o.type 36 i Try.underlying24 hi g' n cap' cur hg ad 1 c us (by rw [hsize]; exact hus) hnews h1 hroom (by rw [hsize, hcs]; omega)
        rw [hr] at hr2
        injection hr2 with e1 _
        simp only [Value.slice.injEq, Option.some.injEq, Addr.mk.injEq, and_true, true_and] at e1
        obtain ⟨rfl, _⟩ := e1
        exact ⟨rfl, h3⟩
      · right
        have hr2 := run_append_grow (P := Try.prog) w 24 o.type 36 i (.agg #[.int .u8 0, .int .i64 0, .string ⟨#[]⟩]) Try.underlying24 hi hz ⟨g', 0, none⟩ n cap' xs (by rw [hsize]; exact hown.1) (hown.cells (g := g') rfl) ad 1 c us (by rw [hsize]; exact hus) hnews (by omega) (by omega) (by rw [hby]; exact growslice_fits (by omega) (by omega))
        rw [hr] at hr2
        injection hr2 with e1 e2
        simp only [Value.slice.injEq, Option.some.injEq, Addr.mk.injEq, and_true, true_and] at e1
        exact ⟨e1.1, by rw [e2]; exact ⟨rfl, rfl, rfl, by simp, fun k hk _ => hao w.drew _ hk⟩⟩
  refine wpList_plain hgd fun K hK => ?_
  unfold Oper.wp execOp
  simp only [ho, resolve, invoke, builtin, Sem.run_bind, Sem.run_pure, Result.andThen_ok, List.map_toArray, List.map_cons, List.map_nil, hs, hx, hr]
  exact hK _ _ (h g cap w' h2 hor)

theorem cell2 (w : World) (o : Obj) (cs : Array Value) (i : Nat) (v : Value) (h : cs[i]? = some v) : ((w.alloc o).alloc (.cells cs 36)).cell? ⟨w.heap.size + 1, i, none⟩ = some v := by
  have := heap_alloc_last (w.alloc o) (.cells cs 36)
  rw [show (w.alloc o).heap.size = w.heap.size + 1 by simp] at this
  unfold World.cell?
  simp only [this]
  exact h
def updC (Z : Nat → List Tt) (k : Nat) (L : List Tt) : Nat → List Tt := fun j => if j = k then L else Z j
theorem updC_same (Z : Nat → List Tt) (k : Nat) (L : List Tt) : updC Z k L k = L := by simp [updC]
theorem updC_other (Z : Nat → List Tt) {k j : Nat} (L : List Tt) (h : ¬ j = k) : updC Z k L j = Z j := by simp [updC, h]
theorem msetC (k : Nat) (L : List Tt) (i : Nat) (h : i < L.length) : tw (mks k (i + 1) ++ L.drop (i + 1)) = (((tw (mks k i ++ L.drop i)).set (i * 3) (.int .u8 99)).set (i * 3 + 1) (.int .i64 ((mkC k i).2.1 : Nat))).set (i * 3 + 2) (.string ⟨#[]⟩) := by
  have hl : (tw (mks k i)).length = i * 3 := by rw [tw_len, mks_len]
  rw [mks_succ, List.drop_eq_getElem_cons h, tw_append, tw_append, tw_append]
  have e : tw (L[i] :: L.drop (i + 1)) = .int .u8 L[i].1 :: .int .i64 L[i].2.1 :: .string L[i].2.2 :: tw (L.drop (i + 1)) := rfl
  rw [e, List.set_append_right _ _ (by omega), List.set_append_right _ _ (by omega), List.set_append_right _ _ (by omega), hl]
  simp [tw_one, mkC]
def gvalC (ℓ gb gc : Nat → Nat) (j : Nat) : Value := .slice (some ⟨gb j, 0, none⟩) (ℓ j + 64) (gc j)
structure StC (w0 : World) (B : Nat) (lo : Option Addr) (lc n : Nat) (vals : Nat → Value) (ℓ : Nat → Nat) (k k' : Nat) (gb gc : Nat → Nat) (vgs : Value) (wr : World) : Prop where
  ls : wr.ownsRow B 24 1 (.slice lo n lc) n ((List.range n).map vals)
  gs : wr.ownsRow B 24 1 vgs k ((List.range k).map (gvalC ℓ gb gc))
  lg : (Value.slice lo n lc).ownBlock = none ∨ (Value.slice lo n lc).ownBlock ≠ vgs.ownBlock
  gf : ∀ b, vgs.ownBlock = some b → w0.heap.size ≤ b
  rest : ∀ j, k' ≤ j → j < n → wr.ownsRow B 36 3 (vals j) (ℓ j) (tw (mks (j + 1) (ℓ j)))
  old : ∀ j, j < k' → ∀ b, (vals j).ownBlock = some b → RowC wr b (mks (j + 1) (ℓ j))
  new : ∀ j, j < k → RowC wr (gb j) (mks (j + 1) (ℓ j + 64)) ∧ ∀ i, i < n → i ≠ j → (vals i).ownBlock ≠ some (gb j)
  tch : Touch n vals w0 wr
theorem StC.same {w0 wr w5 : World} {B : Nat} {lo : Option Addr} {lc n : Nat} {vals : Nat → Value} {ℓ gb gc : Nat → Nat} {k k' : Nat} {vgs : Value} {o : Obj} (h : StC w0 B lo lc n vals ℓ k k' gb gc vgs wr) (hg : (wr.alloc o).grownBy w5 none) : StC w0 B lo lc n vals ℓ k k' gb gc vgs w5 :=
  ⟨(h.ls.alloc o).kept hg (by cases hq : (Value.slice lo n lc).ownBlock <;> simp), (h.gs.alloc o).kept hg (by cases hq : vgs.ownBlock <;> simp), h.lg, h.gf,
    fun j h1 h2 => ((h.rest j h1 h2).alloc o).kept hg (by cases hq : (vals j).ownBlock <;> simp), fun j h1 b hb => (h.old j h1 b hb).grown hg (by simp), fun j h1 => ⟨(h.new j h1).1.grown hg (by simp), (h.new j h1).2⟩,
    h.tch.alloc_grown hg (fun b e => by cases e)⟩
theorem StC.place {w0 wr w5 : World} {B : Nat} {lo : Option Addr} {lc n : Nat} {vals : Nat → Value} {ℓ gb gc : Nat → Nat} {k g m c c5 : Nat} {vgs : Value} {o : Obj} {L : List Tt} (h : StC w0 B lo lc n vals ℓ k (k + 1) gb gc vgs wr)
    (hk : k < n) (hv : wr.ownsRow B 36 3 (.slice (some ⟨g, 0, none⟩) m c) m (tw L)) (hg : (wr.alloc o).grownBy w5 (some g)) (h5 : w5.ownsRow B 36 3 (.slice (some ⟨g, 0, none⟩) (m + 1) c5) (m + 1) (tw (mks (k + 1) (m + 1)))) (hm : ℓ k ≤ m)
    (hc1 : ∀ j, j < n → j ≠ k → (vals j).ownBlock ≠ some g) (hc2 : ∀ j, j < k → gb j ≠ g) (hd : (vals k).ownBlock = some g ∨ w0.heap.size ≤ g) : StC w0 B lo lc n vals ℓ k (k + 1) gb gc vgs w5 := by
  refine ⟨(h.ls.alloc o).kept hg ?_, (h.gs.alloc o).kept hg ?_, h.lg, h.gf, fun j h1 h2 => ((h.rest j h1 h2).alloc o).kept hg (.inr (hc1 j h2 (by omega))), fun j h1 b hb => ?_, fun j h1 => ⟨(h.new j h1).1.grown hg ?_, (h.new j h1).2⟩, h.tch.alloc_grown hg ?_⟩
  · have := rows_type (e := 24) (e' := 36) (by decide) h.ls hv
    simpa [Value.ownBlock] using this
  · have := rows_type (e := 24) (e' := 36) (by decide) h.gs hv
    simpa [Value.ownBlock] using this
  · by_cases hbg : b = g
    · subst hbg
      have hjk : j = k := Classical.byContradiction fun hne => hc1 j (by omega) hne hb
      subst hjk
      refine RowC.of_own h5 ?_
      rw [mks_len, show m + 1 = ℓ j + (m + 1 - ℓ j) by omega]
      exact mks_take _ _ _
    · exact (h.old j h1 b hb).grown hg (fun e => hbg (by simpa using e.symm))
  · exact fun e => hc2 j h1 (by simpa using e.symm)
  · intro b e
    simp only [Option.some.injEq] at e
    subst e
    rcases hd with hd | hd
    · exact .inl ⟨k, hk, hd⟩
    · exact .inr hd

theorem StC.alloc {w0 wr : World} {B : Nat} {lo : Option Addr} {lc n : Nat} {vals : Nat → Value} {ℓ gb gc : Nat → Nat} {k k' : Nat} {vgs : Value} (h : StC w0 B lo lc n vals ℓ k k' gb gc vgs wr) (o : Obj) : StC w0 B lo lc n vals ℓ k k' gb gc vgs (wr.alloc o) :=
  ⟨h.ls.alloc o, h.gs.alloc o, h.lg, h.gf, fun j h1 h2 => (h.rest j h1 h2).alloc o, fun j h1 b hb => (h.old j h1 b hb).alloc o, fun j h1 => ⟨(h.new j h1).1.alloc o, (h.new j h1).2⟩, h.tch.alloc o⟩

end Go.Proofs.Ytldeodnlppjbcaa
