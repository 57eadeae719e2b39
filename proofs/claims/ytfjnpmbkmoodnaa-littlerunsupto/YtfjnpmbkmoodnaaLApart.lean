import Derived.Test.YtfjnpmbkmoodnaaLMark
import Derived.Deep.AppendLies
import Derived.Deep.RegionWith
import Derived.WideShapes
namespace Go.Proofs.Ytfjnpmbkmoodnaa
open Go.RowKit
set_option maxRecDepth 100000

theorem Try.infoL : (Try.prog.info? 26).map (fun i => (i.zero, i.size, i.bytes)) = some (some (.slice none 0 0), 1, 24) := by kernel_rfl

theorem rows_type {w : World} {B B' e e' s s' n n' : Nat} {v v' : Value} {xs xs' : List Value} (he : e ≠ e') (h : w.ownsRow B e s v n xs) (h' : w.ownsRow B' e' s' v' n' xs') : v.ownBlock = none ∨ v.ownBlock ≠ v'.ownBlock := by
  rcases h.2 with ⟨rfl, _⟩ | ⟨g, cap, cur, rfl, _, hg, _⟩
  · exact .inl rfl
  · right
    rcases h'.2 with ⟨rfl, _⟩ | ⟨g', cap', cur', rfl, _, hg', _⟩
    · simp [Value.ownBlock]
    · intro e1
      simp only [Value.ownBlock, Option.some.injEq] at e1
      subst e1
      rw [hg] at hg'
      simp only [Option.some.injEq, Obj.cells.injEq] at hg'
      exact he hg'.2.1
theorem own_form0' {w : World} {B e sz : Nat} {v : Value} {n : Nat} {xs : List Value} (h : w.ownsRow B e sz v n xs) : ∃ a c, v = .slice a n c := by
  rcases h.2 with ⟨rfl, hz⟩ | ⟨g, cap, cur, rfl, _⟩
  · exact ⟨none, 0, by rw [hz]⟩
  · exact ⟨_, _, rfl⟩
theorem own_pos' {w : World} {B e sz : Nat} {a : Option Addr} {n c : Nat} {xs : List Value} (h : w.ownsRow B e sz (.slice a n c) n xs) (hn : 0 < n) : ∃ g, a = some ⟨g, 0, none⟩ := by
  rcases h.2 with ⟨_, hz⟩ | ⟨g, cap, cur, e, _⟩
  · omega
  · simp only [Value.slice.injEq] at e; exact ⟨g, e.1⟩
theorem own_at {w : World} {B e g n c : Nat} {vals : Nat → Value} (h : w.ownsRow B e 1 (.slice (some ⟨g, 0, none⟩) n c) n ((List.range n).map vals)) {k : Nat} (hk : k < n) : w.cell? ⟨g, k, none⟩ = some (vals k) := by
  have := h.cells (g := g) rfl k (vals k) (by simp [hk])
  rwa [Go.WideShapes.add_plain, Nat.zero_add] at this

/-- lists of bytes of our own, each in memory of its own -/
structure OwnL (w : World) (B : Nat) (lo : Option Addr) (lc n : Nat) (vals : Nat → Value) (Z : Nat → List Int) : Prop where
  row : w.ownsRow B 26 1 (.slice lo n lc) n ((List.range n).map vals)
  each : ∀ i, i < n → w.ownsRow B 5 1 (vals i) (Z i).length (bv (Z i))
  apart : ∀ i j, i < n → j < n → i ≠ j → (vals i).ownBlock = none ∨ (vals i).ownBlock ≠ (vals j).ownBlock
theorem OwnL.drew {w : World} {B : Nat} {lo : Option Addr} {lc n : Nat} {vals : Nat → Value} {Z : Nat → List Int} (h : OwnL w B lo lc n vals Z) : OwnL w.drew B lo lc n vals Z :=
  ⟨h.row.drew, fun i hi => (h.each i hi).drew, h.apart⟩
/-- nothing but the lists' own memory has changed -/
structure Touch (n : Nat) (vals : Nat → Value) (w w' : World) : Prop where
  os : w'.os = w.os
  tape : w'.tape = w.tape
  output : w'.output = w.output
  size : w.heap.size ≤ w'.heap.size
  block : ∀ b, b < w.heap.size → (∀ i, i < n → (vals i).ownBlock ≠ some b) → w'.heap[b]? = w.heap[b]?
theorem Touch.refl (n : Nat) (vals : Nat → Value) (w : World) : Touch n vals w w := ⟨rfl, rfl, rfl, Nat.le_refl _, fun _ _ _ => rfl⟩
theorem Touch.trans {n : Nat} {vals : Nat → Value} {w w1 w2 : World} (h : Touch n vals w w1) (h' : Touch n vals w1 w2) : Touch n vals w w2 :=
  ⟨h'.os.trans h.os, h'.tape.trans h.tape, h'.output.trans h.output, Nat.le_trans h.size h'.size, fun b hb hn => (h'.block b (Nat.lt_of_lt_of_le hb h.size) hn).trans (h.block b hb hn)⟩
theorem Touch.of_below {n : Nat} {vals : Nat → Value} {w w1 : World} (h : Below w.heap.size w w1) : Touch n vals w w1 := ⟨h.os, h.tape, h.output, h.size, fun b hb _ => h.block b hb⟩
theorem Touch.below {n B : Nat} {vals : Nat → Value} {w w1 : World} (h : Touch n vals w w1) (hB : B ≤ w.heap.size) (hv : ∀ i b, i < n → (vals i).ownBlock = some b → B ≤ b) : Below B w w1 :=
  ⟨h.os, h.tape, h.output, h.size, fun b hb => h.block b (Nat.lt_of_lt_of_le hb hB) (fun i hi e => by have := hv i b hi e; omega)⟩
theorem Touch.of_grown {n k : Nat} {vals : Nat → Value} {w w1 : World} (hk : k < n) (h : w.grownBy w1 (vals k).ownBlock) : Touch n vals w w1 :=
  ⟨h.os, h.tape, h.output, h.size, fun b hb hn => h.block b hb (fun e => hn k hk e.symm)⟩

/-- a row of bytes begins so -/
def RowHas (w : World) (b : Nat) (L : List Int) : Prop := ∃ cur, w.heap[b]? = some (.cells cur 5) ∧ ∀ i, i < L.length → cur[i]? = some (.int .u8 (L.getD i 0))
theorem RowHas.of_own {w : World} {B g n cap : Nat} {L M : List Int} (h : w.ownsRow B 5 1 (.slice (some ⟨g, 0, none⟩) n cap) n (bv L)) (hM : M = L.take M.length) : RowHas w g M := by
  have hn : (bv L).length = n * 1 := h.1
  rcases h.2 with ⟨e, _⟩ | ⟨g', cap', cur, e, _, hg, _, _, _, ht⟩
  · simp at e
  · simp only [Value.slice.injEq, Option.some.injEq, Addr.mk.injEq, and_true, true_and] at e
    obtain ⟨rfl, rfl⟩ := e
    refine ⟨cur, hg, fun i hi => ?_⟩
    have hML : M.length ≤ L.length := by
      have := congrArg List.length hM
      simp at this
      omega
    have e1 : (cur.toList.take (n * 1))[i]? = (bv L)[i]? := by rw [ht]
    rw [bv_len] at hn
    rw [List.getElem?_take, if_pos (by omega), Array.getElem?_toList] at e1
    rw [e1, hM]
    simp [bv, hi, show i < L.length by omega]
theorem RowHas.cell {w : World} {b : Nat} {L : List Int} (h : RowHas w b L) {i : Nat} (hi : i < L.length) : w.cell? ⟨b, i, none⟩ = some (.int .u8 (L.getD i 0)) := by
  obtain ⟨cur, hb, hc⟩ := h
  simp [World.cell?, hb, hc i hi]
theorem RowHas.lt {w : World} {b : Nat} {L : List Int} (h : RowHas w b L) : b < w.heap.size := by
  obtain ⟨cur, hb, _⟩ := h
  exact (Array.getElem?_eq_some_iff.1 hb).1
theorem RowHas.block {w w' : World} {b : Nat} {L : List Int} (h : RowHas w b L) (he : w'.heap[b]? = w.heap[b]?) : RowHas w' b L := by
  obtain ⟨cur, hb, hc⟩ := h
  exact ⟨cur, he.trans hb, hc⟩
theorem RowHas.grown {w w' : World} {b : Nat} {L : List Int} {row : Option Nat} {o : Obj} (h : RowHas w b L) (hg : (w.alloc o).grownBy w' row) (hne : row ≠ some b) : RowHas w' b L := by
  exact h.block ((hg.block b (by have := h.lt; simp; omega) (fun e => hne e.symm)).trans (heap_alloc_old w o h.lt))
theorem RowHas.type {w : World} {b B e n : Nat} {L : List Int} {v : Value} {xs : List Value} (h : RowHas w b L) (he : e ≠ 5) (h' : w.ownsRow B e 1 v n xs) : v.ownBlock ≠ some b := by
  intro hb
  obtain ⟨cur, h1, _⟩ := h
  rcases h'.2 with ⟨rfl, _⟩ | ⟨g', cap', cur', rfl, _, hg', _⟩
  · simp [Value.ownBlock] at hb
  · simp only [Value.ownBlock, Option.some.injEq] at hb
    subst hb
    rw [h1] at hg'
    simp only [Option.some.injEq, Obj.cells.injEq] at hg'
    exact he hg'.2.1.symm

/-- one byte is put behind a row of our own: where the row moves, nothing else has changed -/
theorem wpList_append_keep {w : World} {ops : Array Oper} {rest : List Oper} {o : Oper} {a : Act} {Q : Exit → Act → World → Prop} (hgd : o.guard = none) (s x : Operand)
    (ho : o.op = .call { callee := .builtin .append, args := #[s, x], argTypes := #[26, 26] })
    (base : Nat) (i : TypeInfo) (hi : Try.prog.info? 5 = some i) (hz : i.zero = some (.int .u8 0)) (hsize : i.size = 1) (hby : i.bytes = 1)
    (v : Value) (n : Nat) (xs : List Value) (hs : a.eval s = v) (hown : w.ownsRow base 5 1 v n xs)
    (ad : Addr) (c : Nat) (u : Value) (hx : a.eval x = .slice (some ad) 1 c) (hnews : w.cell? (ad.add 0) = some u) (h1 : u.oneCell' = true)
    (hbytes : n + 1 ≤ 140737488355328) (hbase : base ≤ w.heap.size)
    (h : ∀ g cap w', w'.ownsRow base 5 1 (.slice (some ⟨g, 0, none⟩) (n + 1) cap) (n + 1) (xs ++ [u]) → (v.ownBlock = some g ∧ w.grownBy w' (some g) ∨ g = w.heap.size ∧ w.grownBy w' none) → wpList Try.prog ops Q rest (a.put o.dst (.slice (some ⟨g, 0, none⟩) (n + 1) cap)) w') :
    wpList Try.prog ops Q (o :: rest) a w := by
  have hnews' : ∀ j u', [u][j]? = some u' → w.cell? (ad.add j) = some u' := by
    intro j u' hj
    match j, hj with
    | 0, hj => simp at hj; rw [← hj]; exact hnews
  have h63 : n + 1 ≤ maxLen := by unfold maxLen; omega
  obtain ⟨g, cap, w', hr, h2, h3, h4, _⟩ := run_append_lies (P := Try.prog) w 26 o.type base 5 i (.int .u8 0) 1 1 Try.underlying26 hi hz hsize hby rfl (by decide) v n xs hown ad 1 c [u] rfl hnews' (by simpa using h1) (by decide) h63 (by omega) hbase _ rfl
  have hor : v.ownBlock = some g ∧ w.grownBy w' (some g) ∨ g = w.heap.size ∧ w.grownBy w' none := by
    rcases hown.2 with ⟨rfl, _⟩ | ⟨g', cap', cur, rfl, _, hg, hnc, hcm, hcs, _⟩
    · right
      rcases h4 with h4 | h4
      · simp [Value.ownBlock] at h4
      · exact ⟨h4, h3⟩
    · by_cases hroom : n + 1 ≤ cap'
      · left
        have hr2 := run_append_room (P := Try.prog) w 26 o.type 5 i Try.underlying26 hi g' n cap' cur hg ad 1 c [u] (by rw [hsize]; rfl) hnews' (by simpa using h1) hroom (by rw [hsize]; simp; omega)
        rw [hr] at hr2
        injection hr2 with e1 _
        simp only [Value.slice.injEq, Option.some.injEq, Addr.mk.injEq, and_true, true_and] at e1
        obtain ⟨rfl, _⟩ := e1
        exact ⟨rfl, h3⟩
      · right
        have hr2 := run_append_grow (P := Try.prog) w 26 o.type 5 i (.int .u8 0) Try.underlying26 hi hz ⟨g', 0, none⟩ n cap' xs (by rw [hsize]; exact hown.1) (hown.cells (g := g') rfl) ad 1 c [u] (by rw [hsize]; rfl) hnews' (by omega) (by omega) (by rw [hby]; exact growslice_fits (by omega) (by omega))
        rw [hr] at hr2
        injection hr2 with e1 e2
        simp only [Value.slice.injEq, Option.some.injEq, Addr.mk.injEq, and_true, true_and] at e1
        exact ⟨e1.1, by rw [e2]; exact ⟨rfl, rfl, rfl, by simp, fun k hk _ => heap_alloc_old w.drew _ hk⟩⟩
  refine wpList_plain hgd fun K hK => ?_
  unfold Oper.wp execOp
  simp only [ho, resolve, invoke, builtin, Sem.run_bind, Sem.run_pure, Result.andThen_ok, List.map_toArray, List.map_cons, List.map_nil, hs, hx, hr]
  exact hK _ _ (h g cap w' h2 hor)

def upd (Z : Nat → List Int) (k : Nat) (L : List Int) : Nat → List Int := fun j => if j = k then L else Z j
theorem upd_same (Z : Nat → List Int) (k : Nat) (L : List Int) : upd Z k L k = L := by simp [upd]
theorem upd_other (Z : Nat → List Int) {k j : Nat} (L : List Int) (h : ¬ j = k) : upd Z k L j = Z j := by simp [upd, h]

theorem mset (k : Int) (L : List Int) (i : Nat) (h : i < L.length) : bv (marks k (i + 1) ++ L.drop (i + 1)) = (bv (marks k i ++ L.drop i)).set i (.int .u8 (mk k i)) := by
  have hl := marks_len k i
  rw [marks_succ, List.drop_eq_getElem_cons h]
  simp only [bv, List.map_append, List.map_cons, List.append_assoc, List.cons_append, List.nil_append]
  rw [List.set_append_right _ _ (by simp [hl])]
  simp [hl]

theorem Touch.alloc_grown {n : Nat} {vals : Nat → Value} {w0 wr w5 : World} {o : Obj} {row : Option Nat} (hT : Touch n vals w0 wr) (hg : (wr.alloc o).grownBy w5 row) (hrow : ∀ b, row = some b → (∃ i, i < n ∧ (vals i).ownBlock = some b) ∨ w0.heap.size ≤ b) : Touch n vals w0 w5 := by
  refine ⟨hg.os.trans hT.os, hg.tape.trans hT.tape, hg.output.trans hT.output, Nat.le_trans hT.size (Nat.le_trans (by simp) hg.size), fun b hb hn => ?_⟩
  have hb' : b < wr.heap.size := Nat.lt_of_lt_of_le hb hT.size
  refine ((hg.block b (by simp; omega) (fun e => ?_)).trans (heap_alloc_old wr o hb')).trans (hT.block b hb hn)
  rcases hrow b e.symm with ⟨i, hi, hv⟩ | h
  · exact hn i hi hv
  · omega

def gval (ℓ gb gc : Nat → Nat) (j : Nat) : Value := .slice (some ⟨gb j, 0, none⟩) (ℓ j + 64) (gc j)
structure St (w0 : World) (B : Nat) (lo : Option Addr) (lc n : Nat) (vals : Nat → Value) (ℓ : Nat → Nat) (k k' : Nat) (gb gc : Nat → Nat) (vgs : Value) (wr : World) : Prop where
  ls : wr.ownsRow B 26 1 (.slice lo n lc) n ((List.range n).map vals)
  gs : wr.ownsRow B 26 1 vgs k ((List.range k).map (gval ℓ gb gc))
  lg : (Value.slice lo n lc).ownBlock = none ∨ (Value.slice lo n lc).ownBlock ≠ vgs.ownBlock
  gf : ∀ b, vgs.ownBlock = some b → w0.heap.size ≤ b
  rest : ∀ j, k' ≤ j → j < n → wr.ownsRow B 5 1 (vals j) (ℓ j) (bv (marks ((j : Int) + 1) (ℓ j)))
  old : ∀ j, j < k' → ∀ b, (vals j).ownBlock = some b → RowHas wr b (marks ((j : Int) + 1) (ℓ j))
  new : ∀ j, j < k → RowHas wr (gb j) (marks ((j : Int) + 1) (ℓ j + 64)) ∧ ∀ i, i < n → i ≠ j → (vals i).ownBlock ≠ some (gb j)
  tch : Touch n vals w0 wr
theorem St.same {w0 wr w5 : World} {B : Nat} {lo : Option Addr} {lc n : Nat} {vals : Nat → Value} {ℓ gb gc : Nat → Nat} {k k' : Nat} {vgs : Value} {o : Obj} (h : St w0 B lo lc n vals ℓ k k' gb gc vgs wr) (hg : (wr.alloc o).grownBy w5 none) : St w0 B lo lc n vals ℓ k k' gb gc vgs w5 :=
  ⟨(h.ls.alloc o).kept hg (by cases hq : (Value.slice lo n lc).ownBlock <;> simp), (h.gs.alloc o).kept hg (by cases hq : vgs.ownBlock <;> simp), h.lg, h.gf,
    fun j h1 h2 => ((h.rest j h1 h2).alloc o).kept hg (by cases hq : (vals j).ownBlock <;> simp), fun j h1 b hb => (h.old j h1 b hb).grown hg (by simp), fun j h1 => ⟨(h.new j h1).1.grown hg (by simp), (h.new j h1).2⟩,
    h.tch.alloc_grown hg (fun b e => by cases e)⟩
theorem St.place {w0 wr w5 : World} {B : Nat} {lo : Option Addr} {lc n : Nat} {vals : Nat → Value} {ℓ gb gc : Nat → Nat} {k g m c c5 : Nat} {vgs : Value} {o : Obj} {L : List Int} (h : St w0 B lo lc n vals ℓ k (k + 1) gb gc vgs wr)
    (hk : k < n) (hv : wr.ownsRow B 5 1 (.slice (some ⟨g, 0, none⟩) m c) m (bv L)) (hg : (wr.alloc o).grownBy w5 (some g)) (h5 : w5.ownsRow B 5 1 (.slice (some ⟨g, 0, none⟩) (m + 1) c5) (m + 1) (bv (marks ((k : Int) + 1) (m + 1)))) (hm : ℓ k ≤ m)
    (hc1 : ∀ j, j < n → j ≠ k → (vals j).ownBlock ≠ some g) (hc2 : ∀ j, j < k → gb j ≠ g) (hd : (vals k).ownBlock = some g ∨ w0.heap.size ≤ g) : St w0 B lo lc n vals ℓ k (k + 1) gb gc vgs w5 := by
  refine ⟨(h.ls.alloc o).kept hg ?_, (h.gs.alloc o).kept hg ?_, h.lg, h.gf, fun j h1 h2 => ((h.rest j h1 h2).alloc o).kept hg (.inr (hc1 j h2 (by omega))), fun j h1 b hb => ?_, fun j h1 => ⟨(h.new j h1).1.grown hg ?_, (h.new j h1).2⟩, h.tch.alloc_grown hg ?_⟩
  · have := rows_type (e := 26) (e' := 5) (by decide) h.ls hv
    simpa [Value.ownBlock] using this
  · have := rows_type (e := 26) (e' := 5) (by decide) h.gs hv
    simpa [Value.ownBlock] using this
  · by_cases hbg : b = g
    · subst hbg
      have hjk : j = k := Classical.byContradiction fun hne => hc1 j (by omega) hne hb
      subst hjk
      refine RowHas.of_own h5 ?_
      rw [marks_len, show m + 1 = ℓ j + (m + 1 - ℓ j) by omega]
      exact marks_take _ _ _
    · exact (h.old j h1 b hb).grown hg (fun e => hbg (by simpa using e.symm))
  · exact fun e => hc2 j h1 (by simpa using e.symm)
  · intro b e
    simp only [Option.some.injEq] at e
    subst e
    rcases hd with hd | hd
    · exact .inl ⟨k, hk, hd⟩
    · exact .inr hd

set_option maxRecDepth 100000 in
set_option maxHeartbeats 4000000 in
theorem apart_any (lo : Option Addr) (lc n B : Nat) (vals : Nat → Value) (Z : Nat → List Int) (w : World) (hn : n ≤ 5800000000000) (hl : ∀ i, i < n → (Z i).length ≤ 67108864) (hB : B ≤ w.heap.size) (hO : OwnL w B lo lc n vals Z) :
    Calls Try.prog 23 #[.slice lo n lc] w fun e w' => e = .returned (.bool true) ∧ Touch n vals w w' := by
  obtain ⟨i0, hi, hz0, hz1, hz2⟩ := info_parts Try.info5
  obtain ⟨j0, hj, hy0, hy1, hy2⟩ := info_parts Try.infoL
  have HV : Hid (∀ i, i < n → ∃ a c, vals i = .slice a (Z i).length c) := fun i hi => own_form0' (hO.each i hi)
  have HL : Hid (∀ i, i < n → (Z i).length ≤ 67108864) := hl
  clear hl
  go_enter Try.func23, Try.ntmps23
  go_wp2_with fail
  go_loopw [3] (fun i wr => ∃ (k : Nat) (Y : Nat → List Int), k ≤ n ∧ i = .int .i64 k ∧ (∀ j, j < n → (Y j).length = (Z j).length) ∧ (∀ j, j < k → Y j = marks ((j : Int) + 1) (Z j).length) ∧ OwnL wr B lo lc n vals Y ∧ Touch n vals w wr)
    (fun i _ => n - (intOf i).toNat)
  case atStart => exact ⟨0, Z, Nat.zero_le _, rfl, fun _ _ => rfl, fun j hj => absurd hj (Nat.not_lt_zero _), hO, Touch.refl _ _ _⟩
  case round =>
    clear hO
    obtain ⟨k, Y, hk, rfl, hYl, hYm, hO, hT⟩ := hrel
    by_cases hlt : k < n
    · obtain ⟨g0, rfl⟩ := own_pos' hO.row (by omega)
      obtain ⟨ak, ck, hvk⟩ := HV.out k hlt
      have hlk := HL.out k hlt
      have HYl : Hid (∀ j, j < n → (Y j).length = (Z j).length) := hYl
      have HYm : Hid (∀ j, j < k → Y j = marks ((j : Int) + 1) (Z j).length) := hYm
      have HVK : Hid (vals k = .slice ak (Z k).length ck) := hvk
      have hlI : (k : Int) < (n : Int) := by omega
      clear hYl hYm hvk
      go_wp2_with fail
      go_loopw [4] (fun i wi => ∃ e : Nat, e ≤ (Z k).length ∧ i = .int .i64 e ∧ OwnL wi B (some ⟨g0, 0, none⟩) lc n vals (upd Y k (marks ((k : Int) + 1) e ++ (Y k).drop e)) ∧ Touch n vals w wi)
        (fun i _ => (Z k).length - (intOf i).toNat)
      case atStart => exact ⟨0, Nat.zero_le _, rfl, by
        have e : upd Y k (marks ((k : Int) + 1) 0 ++ (Y k).drop 0) = Y := by funext j; by_cases h : j = k <;> simp [upd, h, marks]
        rw [e]; exact hO, hT⟩
      case round =>
        clear hO hT
        obtain ⟨e, he, rfl, hO, hT⟩ := hrel
        have hc0 := own_at hO.row hlt
        rw [HVK.out] at hc0
        by_cases hlt2 : e < (Z k).length
        · have hown := hO.each k hlt
          rw [upd_same, HVK.out] at hown
          have hln : (marks ((k : Int) + 1) e ++ (Y k).drop e).length = (Z k).length := by
            have := HYl.out k hlt
            simp [marks_len]; omega
          rw [hln] at hown
          obtain ⟨gk, rfl⟩ := own_pos' hown (by omega)
          have hck := own_get hown (i := e) (by rw [hln]; exact hlt2)
          have hfk := hown.frozenAt e
          have R := hown.stored e (.int .u8 (mk ((k : Int) + 1) e))
          have hset := mset ((k : Int) + 1) (Y k) e (by rw [HYl.out k hlt]; exact hlt2)
          rw [← hset] at R
          have hblk : (vals k).ownBlock = some gk := by rw [HVK.out]; rfl
          have hO2 : OwnL (wr.setCell ⟨gk, e, none⟩ (.int .u8 (mk ((k : Int) + 1) e))) B (some ⟨g0, 0, none⟩) lc n vals (upd Y k (marks ((k : Int) + 1) (e + 1) ++ (Y k).drop (e + 1))) := by
            refine ⟨hO.row.kept R.2 ?_, fun j hj => ?_, hO.apart⟩
            · have := rows_type (e := 26) (e' := 5) (by decide) hO.row hown
              simpa [Value.ownBlock] using this
            · by_cases hjk : j = k
              · subst hjk
                rw [upd_same, HVK.out, show (marks ((j : Int) + 1) (e + 1) ++ (Y j).drop (e + 1)).length = (Z j).length by have := HYl.out j hj; simp [marks_len]; omega]
                exact R.1
              · have := hO.each j hj
                rw [upd_other _ _ hjk] at this ⊢
                refine this.kept R.2 ?_
                have := hO.apart j k hj hlt hjk
                rwa [hblk] at this
          have hT2 : Touch n vals w (wr.setCell ⟨gk, e, none⟩ (.int .u8 (mk ((k : Int) + 1) e))) := hT.trans (Touch.of_grown hlt (by rw [hblk]; exact R.2))
          have HO2 : Hid (OwnL (wr.setCell ⟨gk, e, none⟩ (.int .u8 (mk ((k : Int) + 1) e))) B (some ⟨g0, 0, none⟩) lc n vals (upd Y k (marks ((k : Int) + 1) (e + 1) ++ (Y k).drop (e + 1)))) := hO2
          have hltI2 : (e : Int) < ((Z k).length : Int) := by omega
          have hwr : IntKind.i64.wrap ((k : Int) + 1) = (k : Int) + 1 := by rw [IntKind.wrap_i64]; omega
          generalize (marks ((k : Int) + 1) e ++ (Y k).drop e).getD e 0 = cc at hck
          clear hO hO2 hown R hset hln hT
          go_wp2_with fail
          go_region_with (go_at_call 20; refine (mark_any _ _ _ (by omega) (by omega)).mono ?_; rintro e' wq ⟨rfl, hq⟩; subst wq)
          all_goals
            go_wp2_with fail
            go_roundw
            case rel => exact ⟨e + 1, by omega, by go_num, HO2.out.drew, ⟨hT2.os, hT2.tape, hT2.output, hT2.size, hT2.block⟩⟩
            case measure => simp [intOf]; omega
        · obtain rfl : e = (Z k).length := by omega
          have hltI2 : ¬ ((Z k).length : Int) < ((Z k).length : Int) := by omega
          have HO2 : Hid (OwnL wr B (some ⟨g0, 0, none⟩) lc n vals (upd Y k (marks ((k : Int) + 1) (Z k).length))) := by
            have := hO
            rw [List.drop_of_length_le (by rw [HYl.out k hlt]; exact Nat.le_refl _), List.append_nil] at this
            exact this
          clear hO
          go_wp2_with fail
          go_roundw
          case rel =>
            refine ⟨k + 1, upd Y k (marks ((k : Int) + 1) (Z k).length), by omega, by go_num, fun j hj => ?_, fun j hj => ?_, HO2.out, hT⟩
            · by_cases h : j = k
              · subst h; rw [upd_same, marks_len]
              · rw [upd_other _ _ h]; exact HYl.out j hj
            · by_cases h : j = k
              · subst h; rw [upd_same]
              · rw [upd_other _ _ h]; exact HYm.out j (by omega)
          case measure => simp [intOf]; omega
    · obtain rfl : k = n := by omega
      have hsz := hT.size
      have HB : Hid (∀ j, j < k → ∀ b, (vals j).ownBlock = some b → b < wr.heap.size ∧ B ≤ b) := fun j hj b hb => ⟨((hO.each j hj).lt b hb).2, ((hO.each j hj).lt b hb).1⟩
      have HAP : Hid (∀ i j, i < k → j < k → i ≠ j → (vals i).ownBlock = none ∨ (vals i).ownBlock ≠ (vals j).ownBlock) := hO.apart
      have HVV : Hid (∀ i, i < k → ∃ a c, vals i = .slice a (Z i).length c) := HV.out
      generalize wr = wo at *
      have hSt0 : St wo B lo lc k vals (fun j => (Z j).length) 0 0 (fun _ => 0) (fun _ => 0) (.slice none 0 0) wo := by
        refine ⟨hO.row, World.ownsRow_nil _ _ _ _, ?_, fun b e => by simp [Value.ownBlock] at e, fun j _ hj => ?_, fun j hj => absurd hj (Nat.not_lt_zero _), fun j hj => absurd hj (Nat.not_lt_zero _), Touch.refl _ _ _⟩
        · cases hq : (Value.slice lo k lc).ownBlock <;> simp [Value.ownBlock]
        · have := hO.each j hj
          rwa [hYm j hj, marks_len] at this
      have HT0 : Hid (Touch k vals w wo) := hT
      have HSR : Hid (∀ j, j < k → wo.ownsRow B 5 1 (vals j) (Z j).length (bv (marks ((j : Int) + 1) (Z j).length))) := fun j hj => hSt0.rest j (Nat.zero_le _) hj
      have hlI : ¬ (k : Int) < (k : Int) := by omega
      clear hO hT hYl hYm HV
      go_wp2_with fail
      go_loopw [5, 6] (fun vgs i wr => ∃ (q : Nat) (gb gc : Nat → Nat), q ≤ k ∧ i = .int .i64 q ∧ St wo B lo lc k vals (fun j => (Z j).length) q q gb gc vgs wr)
        (fun _ i _ => k - (intOf i).toNat)
      case atStart => exact ⟨0, _, _, Nat.zero_le _, rfl, hSt0⟩
      case round =>
        clear hSt0
        obtain ⟨q, gb, gc, hq, rfl, hSt⟩ := hrel
        by_cases hlt : q < k
        · obtain ⟨g0, rfl⟩ := own_pos' hSt.ls (by omega)
          obtain ⟨ak, ck, hvk⟩ := HVV.out q hlt
          have hlq := HL.out q hlt
          have hc0 := own_at hSt.ls hlt
          rw [hvk] at hc0
          have HVK : Hid (vals q = .slice ak (Z q).length ck) := hvk
          have hqI : (q : Int) < (k : Int) := by omega
          have hSt1 : St wo B (some ⟨g0, 0, none⟩) lc k vals (fun j => (Z j).length) q (q + 1) gb gc u5 wr := by
            refine ⟨hSt.ls, hSt.gs, hSt.lg, hSt.gf, fun j h1 h2 => hSt.rest j (by omega) h2, fun j h1 b hb => ?_, hSt.new, hSt.tch⟩
            by_cases hj : j = q
            · subst hj
              have := hSt.rest j (Nat.le_refl _) hlt
              rw [HVK.out] at this hb
              have hak : ak = some ⟨b, 0, none⟩ := by
                rcases this.2 with ⟨e, hz⟩ | ⟨g, cap, cur, e, _⟩
                · rw [e] at hb; simp [Value.ownBlock] at hb
                · simp only [Value.slice.injEq] at e
                  rw [e.1] at hb ⊢
                  simp only [Value.ownBlock, Option.some.injEq] at hb
                  rw [hb]
              subst hak
              exact RowHas.of_own this (by rw [List.take_length])
            · exact hSt.old j (by omega) b hb
          have hown0 := hSt.rest q (Nat.le_refl _) hlt
          rw [HVK.out] at hown0
          have hC0 : ∀ b, (Value.slice ak (Z q).length ck).ownBlock = some b → (∀ j, j < k → j ≠ q → (vals j).ownBlock ≠ some b) ∧ (∀ j, j < q → gb j ≠ b) ∧ ((vals q).ownBlock = some b ∨ wo.heap.size ≤ b) := by
            intro b hb
            have hb' : (vals q).ownBlock = some b := by rw [HVK.out]; exact hb
            refine ⟨fun j hj hne e => ?_, fun j hj e => ?_, .inl hb'⟩
            · rcases HAP.out j q hj hlt hne with h | h
              · rw [h] at e; cases e
              · rw [e, hb'] at h; exact h rfl
            · exact (hSt.new j hj).2 q hlt (by omega) (by rw [e]; exact hb')
          have HC0 : Hid (∀ b, (Value.slice ak (Z q).length ck).ownBlock = some b → (∀ j, j < k → j ≠ q → (vals j).ownBlock ≠ some b) ∧ (∀ j, j < q → gb j ≠ b) ∧ ((vals q).ownBlock = some b ∨ wo.heap.size ≤ b)) := hC0
          generalize u5 = vgs at *
          clear hSt hC0 hvk
          go_wp2_with fail
          go_loopw [7, 8] (fun vg i wi => ∃ j : Nat, j ≤ 64 ∧ i = .int .i64 j ∧ wi.ownsRow B 5 1 vg ((Z q).length + j) (bv (marks ((q : Int) + 1) ((Z q).length + j))) ∧ (∀ b, vg.ownBlock = some b → (∀ j, j < k → j ≠ q → (vals j).ownBlock ≠ some b) ∧ (∀ j, j < q → gb j ≠ b) ∧ ((vals q).ownBlock = some b ∨ wo.heap.size ≤ b)) ∧ St wo B (some ⟨g0, 0, none⟩) lc k vals (fun j => (Z j).length) q (q + 1) gb gc vgs wi)
            (fun _ i _ => 64 - (intOf i).toNat)
          case atStart => exact ⟨0, by omega, rfl, hown0, HC0.out, hSt1⟩
          case round =>
            clear hown0 HC0 hSt1 hc0
            obtain ⟨j, hj64, rfl, hown, hC, hSt⟩ := hrel
            have HC : Hid (∀ b, u7.ownBlock = some b → (∀ j, j < k → j ≠ q → (vals j).ownBlock ≠ some b) ∧ (∀ j, j < q → gb j ≠ b) ∧ ((vals q).ownBlock = some b ∨ wo.heap.size ≤ b)) := hC
            clear hC
            have hc0 := own_at hSt.ls hlt
            rw [HVK.out] at hc0
            have hsw := hSt.tch.size
            have hBw : B ≤ wr.heap.size := by omega
            by_cases hlt2 : j < 64
            · have hma : ∀ W1 : World, Calls Try.prog 20 #[.int .i64 ((q : Int) + 1), .int .i64 (((Z q).length : Int) + (j : Int))] W1 fun e w' => e = .returned (.int .u8 (mk ((q : Int) + 1) (((Z q).length + j : Nat) : Int))) ∧ w' = W1 := fun W1 => by
                have := mark_any ((q : Int) + 1) (((Z q).length + j : Nat) : Int) W1 (by omega) (by omega)
                rwa [show (((Z q).length + j : Nat) : Int) = ((Z q).length : Int) + (j : Int) by push_cast; rfl] at this ⊢
              have HMA : Hid (∀ W1 : World, Calls Try.prog 20 #[.int .i64 ((q : Int) + 1), .int .i64 (((Z q).length : Int) + (j : Int))] W1 fun e w' => e = .returned (.int .u8 (mk ((q : Int) + 1) (((Z q).length + j : Nat) : Int))) ∧ w' = W1) := hma
              have HMS : Hid (marks ((q : Int) + 1) ((Z q).length + j + 1) = marks ((q : Int) + 1) ((Z q).length + j) ++ [mk ((q : Int) + 1) (((Z q).length + j : Nat) : Int)]) := marks_succ _ _
              clear hma
              generalize mk ((q : Int) + 1) (((Z q).length + j : Nat) : Int) = x at HMA HMS
              go_wp2_with (first | (go_at_call 20; with_reducible refine (HMA.out _).mono ?_; rintro e wq ⟨rfl, hq⟩; subst wq) | (at_builtin; refine wpList_append_keep rfl _ _ rfl B i0 hi hz0 hz1 hz2 _ _ _ rfl (hown.alloc _) ⟨_, 0, none⟩ 1 (.int .u8 x) rfl ?c1 rfl ?c4 ?c5 ?_))
              case c1 => simp [Addr.add]
              case c4 => omega
              case c5 => simp; omega
              intro g5 cap5 w5 hown5 hor
              rw [← bv_one, ← bv_append, ← HMS.out] at hown5
              have hfin : (∀ b, (Value.slice (some ⟨g5, 0, none⟩) ((Z q).length + j + 1) cap5).ownBlock = some b → (∀ j, j < k → j ≠ q → (vals j).ownBlock ≠ some b) ∧ (∀ j, j < q → gb j ≠ b) ∧ ((vals q).ownBlock = some b ∨ wo.heap.size ≤ b)) ∧ St wo B (some ⟨g0, 0, none⟩) lc k vals (fun j => (Z j).length) q (q + 1) gb gc vgs w5 := by
                rcases hor with ⟨he, hg⟩ | ⟨he, hg⟩
                · obtain ⟨h1, h2, h3⟩ := HC.out g5 he
                  obtain ⟨g6, c6, hv6⟩ : ∃ g6 c6, u7 = .slice (some ⟨g6, 0, none⟩) ((Z q).length + j) c6 := by
                    rcases hown.2 with ⟨e, _⟩ | ⟨g, cap, cur, e, _⟩
                    · rw [e] at he; simp [Value.ownBlock] at he
                    · exact ⟨g, cap, e⟩
                  subst hv6
                  have : g6 = g5 := by simpa [Value.ownBlock] using he
                  subst this
                  exact ⟨fun b hb => by have : g6 = b := by simpa [Value.ownBlock] using hb
                                        subst this; exact ⟨h1, h2, h3⟩, hSt.place hlt hown hg hown5 (by show (Z q).length ≤ _; omega) h1 h2 h3⟩
                · refine ⟨fun b hb => ?_, hSt.same hg⟩
                  have hbe : g5 = b := by simpa [Value.ownBlock] using hb
                  subst hbe
                  rw [he]
                  refine ⟨fun j hj _ e => ?_, fun j hj e => ?_, .inr (by first | omega | (simp; omega))⟩
                  · have := (HB.out j hj _ e).1
                    first | omega | (simp at this; omega)
                  · have := (hSt.new j hj).1.lt
                    rw [e] at this
                    first | omega | (simp at this)
              clear hor hown hSt
              go_wp2_with fail
              go_roundw
              case rel => exact ⟨j + 1, by omega, by go_num, hown5, hfin.1, hfin.2⟩
              case measure => simp [intOf]; omega
            · obtain rfl : j = 64 := by omega
              obtain ⟨g5, c5, rfl, hc5⟩ := own_form hown (by omega)
              obtain ⟨h1, h2, _⟩ := HC.out g5 rfl
              go_wp2_with (at_builtin; refine wpList_append_lies _ rfl _ _ 24 rfl B 26 j0 (.slice none 0 0) 1 24 Try.underlying24 hj hy0 hy1 hy2 rfl (by decide) _ _ _ rfl (hSt.gs.alloc _) ⟨_, 0, none⟩ 1 1 [.slice (some ⟨g5, 0, none⟩) ((Z q).length + 64) c5] rfl rfl ?d1 ?d2 (by decide) ?d3 ?d4 ?d5 (wr.heap.size + 1) (by simp) ?_)
              case d1 =>
                intro j u hj
                match j, hj with
                | 0, hj => simp at hj; subst hj; simp [Addr.add]
              case d2 => intro u hu; simp at hu; subst hu; rfl
              case d3 => unfold maxLen; omega
              case d4 => omega
              case d5 => simp; omega
              intro g6 cap6 w6 hown6 hgrow hor _
              have hSt2 : St wo B (some ⟨g0, 0, none⟩) lc k vals (fun j => (Z j).length) (q + 1) (q + 1) (fun j => if j = q then g5 else gb j) (fun j => if j = q then c5 else gc j) (.slice (some ⟨g6, 0, none⟩) (q + 1) cap6) w6 := by
                refine ⟨(hSt.ls.alloc _).kept hgrow hSt.lg, ?_, ?_, fun b hb => ?_, fun j ha hb => ((hSt.rest j ha hb).alloc _).kept hgrow (rows_type (e := 5) (e' := 26) (by decide) (hSt.rest j ha hb) hSt.gs), fun j ha b hb => (hSt.old j ha b hb).grown hgrow ((hSt.old j ha b hb).type (by decide) hSt.gs), fun j ha => ?_, hSt.tch.alloc_grown hgrow (fun b hb => .inr (hSt.gf b hb))⟩
                · have e : (List.range (q + 1)).map (gval (fun j => (Z j).length) (fun j => if j = q then g5 else gb j) (fun j => if j = q then c5 else gc j)) = (List.range q).map (gval (fun j => (Z j).length) gb gc) ++ [.slice (some ⟨g5, 0, none⟩) ((Z q).length + 64) c5] := by
                    rw [List.range_succ, List.map_append]
                    congr 1
                    · refine List.map_congr_left fun j hj => ?_
                      have : ¬ j = q := by have := List.mem_range.1 hj; omega
                      simp [gval, this]
                    · simp [gval]
                  rw [e]; exact hown6
                · rcases hor with h | h
                  · have e := hSt.lg
                    rw [h] at e; exact e
                  · right
                    intro e
                    have : g0 = g6 := by simpa [Value.ownBlock] using e
                    have h' := (hSt.ls.lt g0 rfl).2
                    omega
                · have hbe : g6 = b := by simpa [Value.ownBlock] using hb
                  subst hbe
                  rcases hor with h | h
                  · exact hSt.gf _ h
                  · omega
                · by_cases hj : j = q
                  · subst hj
                    simp only [if_true]
                    refine ⟨RowHas.of_own ((hown.alloc _).kept hgrow (rows_type (e := 5) (e' := 26) (by decide) hown hSt.gs)) (by rw [List.take_length]), fun i hi hne => h1 i hi hne⟩
                  · simp only [if_neg hj]
                    have hn := hSt.new j (by omega)
                    exact ⟨hn.1.grown hgrow (hn.1.type (by decide) hSt.gs), hn.2⟩
              clear hown hSt hgrow hor hown6 HC
              go_wp2_with fail
              go_roundw
              case rel => exact ⟨q + 1, _, _, by omega, by go_num, hSt2⟩
              case measure => simp [intOf]; omega
        · obtain rfl : q = k := by omega
          have HT1 : Hid (Touch q vals w wr) := HT0.out.trans hSt.tch
          have hlI2 : ¬ (q : Int) < (q : Int) := by omega
          obtain ⟨ag, cg, hvg⟩ := own_form0' hSt.gs
          subst hvg
          have HS : Hid (St wo B lo lc q vals (fun j => (Z j).length) q q gb gc (.slice ag q cg) wr) := hSt
          clear hSt
          go_wp2_with fail
          go_loop [9] (fun i => ∃ a : Nat, a ≤ q ∧ i = .int .i64 a) (fun i => q - (intOf i).toNat)
          case atStart => exact ⟨0, Nat.zero_le _, rfl⟩
          case round =>
            obtain ⟨a, ha, rfl⟩ := hrel
            by_cases hlt : a < q
            · obtain ⟨g0, rfl⟩ := own_pos' HS.out.ls (by omega)
              obtain ⟨gg, rfl⟩ := own_pos' HS.out.gs (by omega)
              obtain ⟨ak, ck, hvk⟩ := HVV.out a hlt
              have hla := HL.out a hlt
              have hcl := own_at HS.out.ls hlt
              have hcg := own_at HS.out.gs hlt
              rw [hvk] at hcl
              simp only [gval] at hcg
              have haI : (a : Int) < (q : Int) := by omega
              have HN : Hid (∀ i, i < (Z a).length + 64 → wr.cell? ⟨gb a, i, none⟩ = some (.int .u8 (mk ((a : Int) + 1) (i : Int)))) := fun i hi => by
                have := (HS.out.new a hlt).1.cell (i := i) (by rw [marks_len]; exact hi)
                rw [this]; simp [marks, hi]
              have HOl : Hid (∀ i, i < (Z a).length → ∃ b, ak = some ⟨b, 0, none⟩ ∧ wr.cell? ⟨b, i, none⟩ = some (.int .u8 (mk ((a : Int) + 1) (i : Int)))) := fun i hi => by
                have hak : ∃ b, ak = some ⟨b, 0, none⟩ ∧ (vals a).ownBlock = some b := by
                  have hh := HSR.out a hlt
                  rw [hvk] at hh ⊢
                  obtain ⟨b, rfl⟩ := own_pos' hh (by omega)
                  exact ⟨b, rfl, rfl⟩
                obtain ⟨b, e1, e2⟩ := hak
                refine ⟨b, e1, ?_⟩
                have := (HS.out.old a hlt b e2).cell (i := i) (by rw [marks_len]; exact hi)
                rw [this]; simp [marks, hi]
              clear hvk
              generalize gb a = gba at *
              generalize gc a = gca at *
              go_wp2_with fail
              go_loop [10] (fun i => ∃ e : Nat, e ≤ (Z a).length + 64 ∧ i = .int .i64 e) (fun i => (Z a).length + 64 - (intOf i).toNat)
              case atStart => exact ⟨0, Nat.zero_le _, rfl⟩
              case round =>
                obtain ⟨e, he, rfl⟩ := hrel
                by_cases hlt2 : e < (Z a).length + 64
                · have hcn := HN.out e hlt2
                  have hma := mark_any ((a : Int) + 1) (e : Int) wr (by omega) (by omega)
                  have heI : (e : Int) < ((Z a).length : Int) + 64 := by omega
                  by_cases hlt3 : e < (Z a).length
                  · obtain ⟨b, rfl, hcb⟩ := HOl.out e hlt3
                    have d3 : decide ((e : Int) < ((Z a).length : Int)) = true := by simp; omega
                    have heI3 : (e : Int) < ((Z a).length : Int) := by omega
                    generalize mk ((a : Int) + 1) (e : Int) = x at hma hcn hcb
                    go_wp2_with (go_at_call 20; with_reducible refine hma.mono ?_; rintro e' wq ⟨rfl, hq⟩; subst wq)
                    go_round
                    case rel => exact ⟨e + 1, by omega, by go_num⟩
                    case measure => simp [intOf]; omega
                  · have d3 : decide ((e : Int) < ((Z a).length : Int)) = false := by simp; omega
                    generalize mk ((a : Int) + 1) (e : Int) = x at hma hcn
                    go_wp2_with (go_at_call 20; with_reducible refine hma.mono ?_; rintro e' wq ⟨rfl, hq⟩; subst wq)
                    go_round
                    case rel => exact ⟨e + 1, by omega, by go_num⟩
                    case measure => simp [intOf]; omega
                · have heI : ¬ (e : Int) < ((Z a).length : Int) + 64 := by omega
                  go_wp2_with fail
                  go_round
                  case rel => exact ⟨a + 1, by omega, by go_num⟩
                  case measure => simp [intOf]; omega
            · have haI : ¬ (a : Int) < (q : Int) := by omega
              go_wp2_with fail
              go_ret
              exact ⟨rfl, HT1.out⟩
end Go.Proofs.Ytfjnpmbkmoodnaa
