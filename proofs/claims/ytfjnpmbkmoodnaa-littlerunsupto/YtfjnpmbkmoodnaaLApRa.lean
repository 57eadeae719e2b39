import Derived.Test.YtfjnpmbkmoodnaaRRs
import Derived.Test.YtfjnpmbkmoodnaaLApart
import Derived.Test.YtfjnpmbkmoodnaaMSp
import Derived.Deep.RegionHeld3
import Derived.Deep.MidRow
namespace Go.Proofs.Ytfjnpmbkmoodnaa
open Go.RowKit Go.WideShapes
theorem obj_cell {w : World} {a : Nat} {cs : Array Value} {t : TypeId} {fr : Nat × Nat} (h : w.heap[a]? = some (.cells cs t fr)) (i : Nat) : w.cell? ⟨a, i, none⟩ = cs[i]? := by
  simp [World.cell?, h]

theorem hao (w : World) (o : Obj) {r : Nat} (h : r < w.heap.size) : (w.alloc o).heap[r]? = w.heap[r]? := by
  first | exact heap_alloc_old w o h | exact heap_alloc_old w o _ h
theorem infoRL : (Try.prog.info? 27).map (fun i => (i.zero, i.size, i.bytes)) = some (some (.slice none 0 0), 1, 24) := by kernel_rfl
def dW : Nat × Value := (0, .slice none 0 0)
/-- runs as values: the place, and whatever slice -/
def wcs : List (Nat × Value) → List Value
  | [] => []
  | p :: L => .int .u32 (p.1 : Nat) :: p.2 :: wcs L
theorem wc_append : ∀ (L M : List (Nat × Value)), wcs (L ++ M) = wcs L ++ wcs M
  | [], M => rfl
  | p :: L, M => by simp only [List.cons_append, wcs, wc_append L M]
theorem wc_all : ∀ (P : List (Nat × Value)) (m : Nat), m < P.length → (wcs P)[m * 2]? = some (.int .u32 ((P.getD m dW).1 : Nat)) ∧ (wcs P)[m * 2 + 1]? = some (P.getD m dW).2
  | [], m, h => by simp at h
  | a :: t, 0, _ => ⟨rfl, rfl⟩
  | a :: t, m + 1, h => by
    have := wc_all t m (by simpa using h)
    rw [show (m + 1) * 2 + 1 = (m * 2 + 1) + 2 by omega, show (m + 1) * 2 = m * 2 + 2 by omega]
    simpa [wcs] using this
theorem wc_len : ∀ L : List (Nat × Value), (wcs L).length = L.length * 2
  | [] => rfl
  | p :: L => by simp only [wcs, List.length_cons, wc_len L]; omega
theorem wc_one (p : Nat × Value) : wcs [p] = [.int .u32 (p.1 : Nat), p.2] := rfl
def mkC (k i : Nat) : Nat × Value := ((1000003 * k + i) % 4294967296, .slice none 0 0)
theorem mk_md (k e : Nat) : (1000003 * ((k : Int) + 1) + (e : Int)) % 4294967296 = ((mkC (k + 1) e).1 : Nat) := by
  have : (mkC (k + 1) e).1 = (1000003 * (k + 1) + e) % 4294967296 := rfl
  rw [this]
  omega
theorem mk_md2 (k l e : Nat) : (1000003 * ((k : Int) + 1) + (l : Int) + (e : Int)) % 4294967296 = ((mkC (k + 1) (l + e)).1 : Nat) := by
  have : (mkC (k + 1) (l + e)).1 = (1000003 * (k + 1) + (l + e)) % 4294967296 := rfl
  rw [this]
  omega
theorem mk_ar (k e : Nat) : (mkC (k + 1) e).2 = .slice none 0 0 := rfl
def mks (k m : Nat) : List (Nat × Value) := (List.range m).map (mkC k)
theorem mks_succ (k m : Nat) : mks k (m + 1) = mks k m ++ [mkC k m] := by unfold mks; rw [List.range_succ, List.map_append]; rfl
theorem mks_len (k m : Nat) : (mks k m).length = m := by simp [mks]
theorem mks_getD (k m i : Nat) (h : i < m) : (mks k m).getD i dW = mkC k i := by simp [mks, h]
theorem mks_take (k m d : Nat) : mks k m = (mks k (m + d)).take m := by
  unfold mks
  rw [← List.map_take, List.take_range, Nat.min_eq_left (by omega)]
/-- lists of instructions of our own, each in memory of its own -/
structure OwnR (w : World) (B : Nat) (lo : Option Addr) (lc n : Nat) (vals : Nat → Value) (Z : Nat → List (Nat × Value)) : Prop where
  row : w.ownsRow B 27 1 (.slice lo n lc) n ((List.range n).map vals)
  each : ∀ i, i < n → w.ownsRow B 48 2 (vals i) (Z i).length (wcs (Z i))
  apart : ∀ i j, i < n → j < n → i ≠ j → (vals i).ownBlock = none ∨ (vals i).ownBlock ≠ (vals j).ownBlock
theorem OwnR.drew {w : World} {B : Nat} {lo : Option Addr} {lc n : Nat} {vals : Nat → Value} {Z : Nat → List (Nat × Value)} (h : OwnR w B lo lc n vals Z) : OwnR w.drew B lo lc n vals Z :=
  ⟨h.row.drew, fun i hi => (h.each i hi).drew, h.apart⟩
theorem OwnR.alloc {w : World} {B : Nat} {lo : Option Addr} {lc n : Nat} {vals : Nat → Value} {Z : Nat → List (Nat × Value)} (h : OwnR w B lo lc n vals Z) (o : Obj) : OwnR (w.alloc o) B lo lc n vals Z :=
  ⟨h.row.alloc o, fun i hi => (h.each i hi).alloc o, h.apart⟩
theorem Touch.alloc {n : Nat} {vals : Nat → Value} {w w1 : World} (h : Touch n vals w w1) (o : Obj) : Touch n vals w (w1.alloc o) :=
  h.trans ⟨rfl, rfl, rfl, by simp, fun b hb _ => hao w1 o hb⟩

/-- a row of instructions begins so -/
def RowR (w : World) (b : Nat) (L : List (Nat × Value)) : Prop := ∃ cur, w.heap[b]? = some (.cells cur 48) ∧ ∀ i, i < L.length → cur[i * 2]? = some (.int .u32 ((L.getD i dW).1 : Nat)) ∧ cur[i * 2 + 1]? = some ((L.getD i dW).2)
theorem RowR.of_own {w : World} {B g n cap : Nat} {L M : List (Nat × Value)} (h : w.ownsRow B 48 2 (.slice (some ⟨g, 0, none⟩) n cap) n (wcs L)) (hM : M = L.take M.length) : RowR w g M := by
  have hn : (wcs L).length = n * 2 := h.1
  rcases h.2 with ⟨e, _⟩ | ⟨g', cap', cur, e, _, hg, _, _, _, ht⟩
  · simp at e
  · simp only [Value.slice.injEq, Option.some.injEq, Addr.mk.injEq, and_true, true_and] at e
    obtain ⟨rfl, rfl⟩ := e
    refine ⟨cur, hg, fun i hi => ?_⟩
    have hML : M.length ≤ L.length := by
      have := congrArg List.length hM
      simp at this
      omega
    rw [wc_len] at hn
    obtain ⟨c0, c1⟩ := wc_all L i (by omega)
    have e0 : (cur.toList.take (n * 2))[i * 2]? = (wcs L)[i * 2]? := by rw [ht]
    have e1 : (cur.toList.take (n * 2))[i * 2 + 1]? = (wcs L)[i * 2 + 1]? := by rw [ht]
    rw [List.getElem?_take, if_pos (by omega), Array.getElem?_toList] at e0 e1
    have eg : M.getD i dW = L.getD i dW := by
      rw [hM]
      simp [List.getD_eq_getElem?_getD, hi]
    rw [e0, e1, c0, c1, eg]
    exact ⟨rfl, rfl⟩
theorem RowR.cell {w : World} {b : Nat} {L : List (Nat × Value)} (h : RowR w b L) {i : Nat} (hi : i < L.length) : w.cell? ⟨b, i * 2, none⟩ = some (.int .u32 ((L.getD i dW).1 : Nat)) ∧ w.cell? ⟨b, i * 2 + 1, none⟩ = some ((L.getD i dW).2) := by
  obtain ⟨cur, hb, hc⟩ := h
  simp [World.cell?, hb, (hc i hi).1, (hc i hi).2]
theorem RowR.lt {w : World} {b : Nat} {L : List (Nat × Value)} (h : RowR w b L) : b < w.heap.size := by
  obtain ⟨cur, hb, _⟩ := h
  exact (Array.getElem?_eq_some_iff.1 hb).1
theorem RowR.block {w w' : World} {b : Nat} {L : List (Nat × Value)} (h : RowR w b L) (he : w'.heap[b]? = w.heap[b]?) : RowR w' b L := by
  obtain ⟨cur, hb, hc⟩ := h
  exact ⟨cur, he.trans hb, hc⟩
theorem RowR.alloc {w : World} {b : Nat} {L : List (Nat × Value)} (h : RowR w b L) (o : Obj) : RowR (w.alloc o) b L := h.block (hao w o h.lt)
theorem RowR.grown {w w' : World} {b : Nat} {L : List (Nat × Value)} {row : Option Nat} {o : Obj} (h : RowR w b L) (hg : (w.alloc o).grownBy w' row) (hne : row ≠ some b) : RowR w' b L := by
  exact h.block ((hg.block b (by have := h.lt; simp; omega) (fun e => hne e.symm)).trans (hao w o h.lt))
theorem RowR.type {w : World} {b B e n : Nat} {L : List (Nat × Value)} {v : Value} {xs : List Value} (h : RowR w b L) (he : e ≠ 48) (h' : w.ownsRow B e 1 v n xs) : v.ownBlock ≠ some b := by
  intro hb
  obtain ⟨cur, h1, _⟩ := h
  rcases h'.2 with ⟨rfl, _⟩ | ⟨g', cap', cur', rfl, _, hg', _⟩
  · simp [Value.ownBlock] at hb
  · simp only [Value.ownBlock, Option.some.injEq] at hb
    subst hb
    rw [h1] at hg'
    simp only [Option.some.injEq, Obj.cells.injEq] at hg'
    exact he hg'.2.1.symm

/-- one instruction is put behind a row of our own: where the row moves, nothing else has changed -/
theorem wpList_append_keepR {w : World} {ops : Array Oper} {rest : List Oper} {o : Oper} {a : Act} {Q : Exit → Act → World → Prop} (hgd : o.guard = none) (s x : Operand)
    (ho : o.op = .call { callee := .builtin .append, args := #[s, x], argTypes := #[27, 27] })
    (base : Nat) (i : TypeInfo) (hi : Try.prog.info? 48 = some i) (hz : i.zero = some (.agg #[.int .u32 0, .slice none 0 0])) (hsize : i.size = 2) (hby : i.bytes = 32)
    (v : Value) (n : Nat) (xs : List Value) (hs : a.eval s = v) (hown : w.ownsRow base 48 2 v n xs)
    (ad : Addr) (c : Nat) (us : List Value) (hx : a.eval x = .slice (some ad) 1 c) (hus : us.length = 2) (hnews : ∀ j u', us[j]? = some u' → w.cell? (ad.add j) = some u') (h1 : ∀ u ∈ us, u.oneCell' = true)
    (hbytes : (n + 1) * 32 ≤ 140737488355328) (hbase : base ≤ w.heap.size)
    (h : ∀ g cap w', w'.ownsRow base 48 2 (.slice (some ⟨g, 0, none⟩) (n + 1) cap) (n + 1) (xs ++ us) → (v.ownBlock = some g ∧ w.grownBy w' (some g) ∨ g = w.heap.size ∧ w.grownBy w' none) → wpList Try.prog ops Q rest (a.put o.dst (.slice (some ⟨g, 0, none⟩) (n + 1) cap)) w') :
    wpList Try.prog ops Q (o :: rest) a w := by
  have h63 : n + 1 ≤ maxLen := by unfold maxLen; omega
  obtain ⟨g, cap, w', hr, h2, h3, h4, _⟩ := run_append_lies (P := Try.prog) w 27 o.type base 48 i (.agg #[.int .u32 0, .slice none 0 0]) 2 32 Try.underlying27 hi hz hsize hby rfl (by decide) v n xs hown ad 1 c us hus hnews h1 (by decide) h63 (by omega) hbase _ rfl
  have hor : v.ownBlock = some g ∧ w.grownBy w' (some g) ∨ g = w.heap.size ∧ w.grownBy w' none := by
    rcases hown.2 with ⟨rfl, _⟩ | ⟨g', cap', cur, rfl, _, hg, hnc, hcm, hcs, _⟩
    · right
      rcases h4 with h4 | h4
      · simp [Value.ownBlock] at h4
      · exact ⟨h4, h3⟩
    · by_cases hroom : n + 1 ≤ cap'
      · left
        have hr2 := run_append_room (P := Try.prog) w 27 o.type 48 i Try.underlying27 hi g' n cap' cur hg ad 1 c us (by rw [hsize]; exact hus) hnews h1 hroom (by rw [hsize, hcs]; omega)
        rw [hr] at hr2
        injection hr2 with e1 _
        simp only [Value.slice.injEq, Option.some.injEq, Addr.mk.injEq, and_true, true_and] at e1
        obtain ⟨rfl, _⟩ := e1
        exact ⟨rfl, h3⟩
      · right
        have hr2 := run_append_grow (P := Try.prog) w 27 o.type 48 i (.agg #[.int .u32 0, .slice none 0 0]) Try.underlying27 hi hz ⟨g', 0, none⟩ n cap' xs (by rw [hsize]; exact hown.1) (hown.cells (g := g') rfl) ad 1 c us (by rw [hsize]; exact hus) hnews (by omega) (by omega) (by rw [hby]; exact growslice_fits (by omega) (by omega))
        rw [hr] at hr2
        injection hr2 with e1 e2
        simp only [Value.slice.injEq, Option.some.injEq, Addr.mk.injEq, and_true, true_and] at e1
        exact ⟨e1.1, by rw [e2]; exact ⟨rfl, rfl, rfl, by simp, fun k hk _ => hao w.drew _ hk⟩⟩
  refine wpList_plain hgd fun K hK => ?_
  unfold Oper.wp execOp
  simp only [ho, resolve, invoke, builtin, Sem.run_bind, Sem.run_pure, Result.andThen_ok, List.map_toArray, List.map_cons, List.map_nil, hs, hx, hr]
  exact hK _ _ (h g cap w' h2 hor)

theorem cell2 (w : World) (o : Obj) (cs : Array Value) (i : Nat) (v : Value) (h : cs[i]? = some v) : ((w.alloc o).alloc (.cells cs 48)).cell? ⟨w.heap.size + 1, i, none⟩ = some v := by
  have := heap_alloc_new (w.alloc o) (.cells cs 48)
  rw [show (w.alloc o).heap.size = w.heap.size + 1 by simp] at this
  unfold World.cell?
  simp only [this]
  exact h
def updR (Z : Nat → List (Nat × Value)) (k : Nat) (L : List (Nat × Value)) : Nat → List (Nat × Value) := fun j => if j = k then L else Z j
theorem updR_same (Z : Nat → List (Nat × Value)) (k : Nat) (L : List (Nat × Value)) : updR Z k L k = L := by simp [updR]
theorem updR_other (Z : Nat → List (Nat × Value)) {k j : Nat} (L : List (Nat × Value)) (h : ¬ j = k) : updR Z k L j = Z j := by simp [updR, h]
theorem msetR (k : Nat) (L : List (Nat × Value)) (i : Nat) (h : i < L.length) : wcs (mks k (i + 1) ++ L.drop (i + 1)) = ((wcs (mks k i ++ L.drop i)).set (i * 2) (.int .u32 ((mkC k i).1 : Nat))).set (i * 2 + 1) (mkC k i).2 := by
  have hl : (wcs (mks k i)).length = i * 2 := by rw [wc_len, mks_len]
  rw [mks_succ, List.drop_eq_getElem_cons h, wc_append, wc_append, wc_append]
  have e : wcs (L[i] :: L.drop (i + 1)) = .int .u32 (L[i].1 : Nat) :: L[i].2 :: wcs (L.drop (i + 1)) := rfl
  rw [e, List.set_append_right _ _ (by omega), List.set_append_right _ _ (by omega), hl]
  simp [wcs]
def gvalR (ℓ gb gc : Nat → Nat) (j : Nat) : Value := .slice (some ⟨gb j, 0, none⟩) (ℓ j + 64) (gc j)
structure StR (w0 : World) (B : Nat) (lo : Option Addr) (lc n : Nat) (vals : Nat → Value) (ℓ : Nat → Nat) (k k' : Nat) (gb gc : Nat → Nat) (vgs : Value) (wr : World) : Prop where
  ls : wr.ownsRow B 27 1 (.slice lo n lc) n ((List.range n).map vals)
  gs : wr.ownsRow B 27 1 vgs k ((List.range k).map (gvalR ℓ gb gc))
  lg : (Value.slice lo n lc).ownBlock = none ∨ (Value.slice lo n lc).ownBlock ≠ vgs.ownBlock
  gf : ∀ b, vgs.ownBlock = some b → w0.heap.size ≤ b
  rest : ∀ j, k' ≤ j → j < n → wr.ownsRow B 48 2 (vals j) (ℓ j) (wcs (mks (j + 1) (ℓ j)))
  old : ∀ j, j < k' → ∀ b, (vals j).ownBlock = some b → RowR wr b (mks (j + 1) (ℓ j))
  new : ∀ j, j < k → RowR wr (gb j) (mks (j + 1) (ℓ j + 64)) ∧ ∀ i, i < n → i ≠ j → (vals i).ownBlock ≠ some (gb j)
  tch : Touch n vals w0 wr
theorem StR.same {w0 wr w5 : World} {B : Nat} {lo : Option Addr} {lc n : Nat} {vals : Nat → Value} {ℓ gb gc : Nat → Nat} {k k' : Nat} {vgs : Value} {o : Obj} (h : StR w0 B lo lc n vals ℓ k k' gb gc vgs wr) (hg : (wr.alloc o).grownBy w5 none) : StR w0 B lo lc n vals ℓ k k' gb gc vgs w5 :=
  ⟨(h.ls.alloc o).kept hg (by cases hq : (Value.slice lo n lc).ownBlock <;> simp), (h.gs.alloc o).kept hg (by cases hq : vgs.ownBlock <;> simp), h.lg, h.gf,
    fun j h1 h2 => ((h.rest j h1 h2).alloc o).kept hg (by cases hq : (vals j).ownBlock <;> simp), fun j h1 b hb => (h.old j h1 b hb).grown hg (by simp), fun j h1 => ⟨(h.new j h1).1.grown hg (by simp), (h.new j h1).2⟩,
    h.tch.alloc_grown hg (fun b e => by cases e)⟩
theorem StR.place {w0 wr w5 : World} {B : Nat} {lo : Option Addr} {lc n : Nat} {vals : Nat → Value} {ℓ gb gc : Nat → Nat} {k g m c c5 : Nat} {vgs : Value} {o : Obj} {L : List (Nat × Value)} (h : StR w0 B lo lc n vals ℓ k (k + 1) gb gc vgs wr)
    (hk : k < n) (hv : wr.ownsRow B 48 2 (.slice (some ⟨g, 0, none⟩) m c) m (wcs L)) (hg : (wr.alloc o).grownBy w5 (some g)) (h5 : w5.ownsRow B 48 2 (.slice (some ⟨g, 0, none⟩) (m + 1) c5) (m + 1) (wcs (mks (k + 1) (m + 1)))) (hm : ℓ k ≤ m)
    (hc1 : ∀ j, j < n → j ≠ k → (vals j).ownBlock ≠ some g) (hc2 : ∀ j, j < k → gb j ≠ g) (hd : (vals k).ownBlock = some g ∨ w0.heap.size ≤ g) : StR w0 B lo lc n vals ℓ k (k + 1) gb gc vgs w5 := by
  refine ⟨(h.ls.alloc o).kept hg ?_, (h.gs.alloc o).kept hg ?_, h.lg, h.gf, fun j h1 h2 => ((h.rest j h1 h2).alloc o).kept hg (.inr (hc1 j h2 (by omega))), fun j h1 b hb => ?_, fun j h1 => ⟨(h.new j h1).1.grown hg ?_, (h.new j h1).2⟩, h.tch.alloc_grown hg ?_⟩
  · have := rows_type (e := 27) (e' := 48) (by decide) h.ls hv
    simpa [Value.ownBlock] using this
  · have := rows_type (e := 27) (e' := 48) (by decide) h.gs hv
    simpa [Value.ownBlock] using this
  · by_cases hbg : b = g
    · subst hbg
      have hjk : j = k := Classical.byContradiction fun hne => hc1 j (by omega) hne hb
      subst hjk
      refine RowR.of_own h5 ?_
      rw [mks_len, show m + 1 = ℓ j + (m + 1 - ℓ j) by omega]
      exact mks_take _ _ _
    · exact (h.old j h1 b hb).grown hg (fun e => hbg (by simpa using e.symm))
  · exact fun e => hc2 j h1 (by simpa using e.symm)
  · intro b e
    simp only [Option.some.injEq] at e
    subst e
    rcases hd with hd | hd
    · exact .inl ⟨k, hk, hd⟩
    · exact .inr hd

theorem StR.alloc {w0 wr : World} {B : Nat} {lo : Option Addr} {lc n : Nat} {vals : Nat → Value} {ℓ gb gc : Nat → Nat} {k k' : Nat} {vgs : Value} (h : StR w0 B lo lc n vals ℓ k k' gb gc vgs wr) (o : Obj) : StR w0 B lo lc n vals ℓ k k' gb gc vgs (wr.alloc o) :=
  ⟨h.ls.alloc o, h.gs.alloc o, h.lg, h.gf, fun j h1 h2 => (h.rest j h1 h2).alloc o, fun j h1 b hb => (h.old j h1 b hb).alloc o, fun j h1 => ⟨(h.new j h1).1.alloc o, (h.new j h1).2⟩, h.tch.alloc o⟩

end Go.Proofs.Ytfjnpmbkmoodnaa
