import Derived.Test.YtbaigjckimpkmaaNLs
import Derived.Test.YtbaigjckimpkmaaLApart
import Derived.Deep.MidRow
namespace Go.Proofs.Ytbaigjckimpkmaa
open Go.RowKit Go.WideShapes Go.Sort
set_option maxRecDepth 100000

theorem hao (w : World) (o : Obj) {r : Nat} (h : r < w.heap.size) : (w.alloc o).heap[r]? = w.heap[r]? := by
  first | exact heap_alloc_old w o h | exact heap_alloc_old w o _ h
theorem Try.infoSL : (Try.prog.info? 30).map (fun i => (i.zero, i.size, i.bytes)) = some (some (.slice none 0 0), 1, 24) := by kernel_rfl
def mks (k m : Nat) : List (Nat × Nat) := (List.range m).map (mkS k)
theorem mks_succ (k m : Nat) : mks k (m + 1) = mks k m ++ [mkS k m] := by unfold mks; rw [List.range_succ, List.map_append]; rfl
theorem mks_len (k m : Nat) : (mks k m).length = m := by simp [mks]
theorem mks_getD (k m i : Nat) (h : i < m) : (mks k m).getD i (0, 0) = mkS k i := by simp [mks, h]
theorem mks_take (k m d : Nat) : mks k m = (mks k (m + d)).take m := by
  unfold mks
  rw [← List.map_take, List.take_range, Nat.min_eq_left (by omega)]
theorem sv_one2 (p : Nat × Nat) : sv [p] = [.int .u32 p.1, .int .u32 p.2] := rfl
theorem hid_of {p : Prop} (h : p) : Hid p := h
theorem alloc_gx (w : World) (o : Obj) : ∃ q os', w.alloc o = grow (w.drewN q) os' := ⟨0, _, by rw [alloc_eq_grow]; rfl⟩
theorem bel {a w : World} {o : Obj} (h : Below a.heap.size a w) : Below a.heap.size a (w.alloc o) := h.alloc h.size o
/-- lists of instructions of our own, each in memory of its own -/
structure OwnC (w : World) (B : Nat) (lo : Option Addr) (lc n : Nat) (vals : Nat → Value) (Z : Nat → List (Nat × Nat)) : Prop where
  row : w.ownsRow B 30 1 (.slice lo n lc) n ((List.range n).map vals)
  each : ∀ i, i < n → w.ownsRow B 27 2 (vals i) (Z i).length (sv (Z i))
  apart : ∀ i j, i < n → j < n → i ≠ j → (vals i).ownBlock = none ∨ (vals i).ownBlock ≠ (vals j).ownBlock
theorem OwnC.drew {w : World} {B : Nat} {lo : Option Addr} {lc n : Nat} {vals : Nat → Value} {Z : Nat → List (Nat × Nat)} (h : OwnC w B lo lc n vals Z) : OwnC w.drew B lo lc n vals Z :=
  ⟨h.row.drew, fun i hi => (h.each i hi).drew, h.apart⟩
theorem OwnC.alloc {w : World} {B : Nat} {lo : Option Addr} {lc n : Nat} {vals : Nat → Value} {Z : Nat → List (Nat × Nat)} (h : OwnC w B lo lc n vals Z) (o : Obj) : OwnC (w.alloc o) B lo lc n vals Z :=
  ⟨h.row.alloc o, fun i hi => (h.each i hi).alloc o, h.apart⟩
theorem Touch.alloc {n : Nat} {vals : Nat → Value} {w w1 : World} (h : Touch n vals w w1) (o : Obj) : Touch n vals w (w1.alloc o) :=
  h.trans ⟨rfl, rfl, rfl, by simp, fun b hb _ => hao w1 o hb⟩

/-- a row of instructions begins so -/
def RowC (w : World) (b : Nat) (L : List (Nat × Nat)) : Prop := ∃ cur, w.heap[b]? = some (.cells cur 27) ∧ ∀ i, i < L.length → cur[i * 2]? = some (.int .u32 (L.getD i (0, 0)).1) ∧ cur[i * 2 + 1]? = some (.int .u32 (L.getD i (0, 0)).2)
theorem RowC.of_own {w : World} {B g n cap : Nat} {L M : List (Nat × Nat)} (h : w.ownsRow B 27 2 (.slice (some ⟨g, 0, none⟩) n cap) n (sv L)) (hM : M = L.take M.length) : RowC w g M := by
  have hn : (sv L).length = n * 2 := h.1
  rcases h.2 with ⟨e, _⟩ | ⟨g', cap', cur, e, _, hg, _, _, _, ht⟩
  · simp at e
  · simp only [Value.slice.injEq, Option.some.injEq, Addr.mk.injEq, and_true, true_and] at e
    obtain ⟨rfl, rfl⟩ := e
    refine ⟨cur, hg, fun i hi => ?_⟩
    have hML : M.length ≤ L.length := by
      have := congrArg List.length hM
      simp at this
      omega
    rw [sv_len] at hn
    obtain ⟨c0, c1⟩ := sv_get L i (by omega)
    have e0 : (cur.toList.take (n * 2))[i * 2]? = (sv L)[i * 2]? := by rw [ht]
    have e1 : (cur.toList.take (n * 2))[i * 2 + 1]? = (sv L)[i * 2 + 1]? := by rw [ht]
    rw [List.getElem?_take, if_pos (by omega), Array.getElem?_toList] at e0 e1
    have eg : M.getD i (0, 0) = L.getD i (0, 0) := by
      rw [hM]
      simp [List.getD_eq_getElem?_getD, hi]
    rw [e0, e1, c0, c1, eg]
    exact ⟨rfl, rfl⟩
theorem RowC.cell {w : World} {b : Nat} {L : List (Nat × Nat)} (h : RowC w b L) {i : Nat} (hi : i < L.length) : w.cell? ⟨b, i * 2, none⟩ = some (.int .u32 (L.getD i (0, 0)).1) ∧ w.cell? ⟨b, i * 2 + 1, none⟩ = some (.int .u32 (L.getD i (0, 0)).2) := by
  obtain ⟨cur, hb, hc⟩ := h
  simp [World.cell?, hb, (hc i hi).1, (hc i hi).2]
theorem RowC.lt {w : World} {b : Nat} {L : List (Nat × Nat)} (h : RowC w b L) : b < w.heap.size := by
  obtain ⟨cur, hb, _⟩ := h
  exact (Array.getElem?_eq_some_iff.1 hb).1
theorem RowC.block {w w' : World} {b : Nat} {L : List (Nat × Nat)} (h : RowC w b L) (he : w'.heap[b]? = w.heap[b]?) : RowC w' b L := by
  obtain ⟨cur, hb, hc⟩ := h
  exact ⟨cur, he.trans hb, hc⟩
theorem RowC.alloc {w : World} {b : Nat} {L : List (Nat × Nat)} (h : RowC w b L) (o : Obj) : RowC (w.alloc o) b L := h.block (hao w o h.lt)
theorem RowC.grown {w w' : World} {b : Nat} {L : List (Nat × Nat)} {row : Option Nat} {o : Obj} (h : RowC w b L) (hg : (w.alloc o).grownBy w' row) (hne : row ≠ some b) : RowC w' b L := by
  exact h.block ((hg.block b (by have := h.lt; simp; omega) (fun e => hne e.symm)).trans (hao w o h.lt))
theorem RowC.type {w : World} {b B e n : Nat} {L : List (Nat × Nat)} {v : Value} {xs : List Value} (h : RowC w b L) (he : e ≠ 27) (h' : w.ownsRow B e 1 v n xs) : v.ownBlock ≠ some b := by
  intro hb
  obtain ⟨cur, h1, _⟩ := h
  rcases h'.2 with ⟨rfl, _⟩ | ⟨g', cap', cur', rfl, _, hg', _⟩
  · simp [Value.ownBlock] at hb
  · simp only [Value.ownBlock, Option.some.injEq] at hb
    subst hb
    rw [h1] at hg'
    simp only [Option.some.injEq, Obj.cells.injEq] at hg'
    exact he hg'.2.1.symm

/-- one instruction is put behind a row of our own: where the row moves, nothing else has changed -/
theorem wpList_append_keepC {w : World} {ops : Array Oper} {rest : List Oper} {o : Oper} {a : Act} {Q : Exit → Act → World → Prop} (hgd : o.guard = none) (s x : Operand)
    (ho : o.op = .call { callee := .builtin .append, args := #[s, x], argTypes := #[30, 30] })
    (base : Nat) (i : TypeInfo) (hi : Try.prog.info? 27 = some i) (hz : i.zero = some (.agg #[.int .u32 0, .int .u32 0])) (hsize : i.size = 2) (hby : i.bytes = 8)
    (v : Value) (n : Nat) (xs : List Value) (hs : a.eval s = v) (hown : w.ownsRow base 27 2 v n xs)
    (ad : Addr) (c : Nat) (us : List Value) (hx : a.eval x = .slice (some ad) 1 c) (hus : us.length = 2) (hnews : ∀ j u', us[j]? = some u' → w.cell? (ad.add j) = some u') (h1 : ∀ u ∈ us, u.oneCell' = true)
    (hbytes : (n + 1) * 8 ≤ 140737488355328) (hbase : base ≤ w.heap.size)
    (h : ∀ g cap w', w'.ownsRow base 27 2 (.slice (some ⟨g, 0, none⟩) (n + 1) cap) (n + 1) (xs ++ us) → (v.ownBlock = some g ∧ w.grownBy w' (some g) ∨ g = w.heap.size ∧ w.grownBy w' none) → wpList Try.prog ops Q rest (a.put o.dst (.slice (some ⟨g, 0, none⟩) (n + 1) cap)) w') :
    wpList Try.prog ops Q (o :: rest) a w := by
  have h63 : n + 1 ≤ maxLen := by unfold maxLen; omega
  obtain ⟨g, cap, w', hr, h2, h3, h4, _⟩ := run_append_lies (P := Try.prog) w 30 o.type base 27 i (.agg #[.int .u32 0, .int .u32 0]) 2 8 Try.underlying30 hi hz hsize hby rfl (by decide) v n xs hown ad 1 c us hus hnews h1 (by decide) h63 (by omega) hbase _ rfl
  have hor : v.ownBlock = some g ∧ w.grownBy w' (some g) ∨ g = w.heap.size ∧ w.grownBy w' none := by
    rcases hown.2 with ⟨rfl, _⟩ | ⟨g', cap', cur, rfl, _, hg, hnc, hcm, hcs, _⟩
    · right
      rcases h4 with h4 | h4
      · simp [Value.ownBlock] at h4
      · exact ⟨h4, h3⟩
    · by_cases hroom : n + 1 ≤ cap'
      · left
        have hr2 := run_append_room (P := Try.prog) w 30 o.type 27 i Try.underlying30 hi g' n cap' cur hg ad 1 c us (by rw [hsize]; exact hus) hnews h1 hroom (by rw [hsize, hcs]; omega)
        rw [hr] at hr2
        injection hr2 with e1 _
        simp only [Value.slice.injEq, Option.some.injEq, Addr.mk.injEq, and_true, true_and] at e1
        obtain ⟨rfl, _⟩ := e1
        exact ⟨rfl, h3⟩
      · right
        have hr2 := run_append_grow (P := Try.prog) w 30 o.type 27 i (.agg #[.int .u32 0, .int .u32 0]) Try.underlying30 hi hz ⟨g', 0, none⟩ n cap' xs (by rw [hsize]; exact hown.1) (hown.cells (g := g') rfl) ad 1 c us (by rw [hsize]; exact hus) hnews (by omega) (by omega) (by rw [hby]; exact growslice_fits (by omega) (by omega))
        rw [hr] at hr2
        injection hr2 with e1 e2
        simp only [Value.slice.injEq, Option.some.injEq, Addr.mk.injEq, and_true, true_and] at e1
        exact ⟨e1.1, by rw [e2]; exact ⟨rfl, rfl, rfl, by simp, fun k hk _ => hao w.drew _ hk⟩⟩
  refine wpList_plain hgd fun K hK => ?_
  unfold Oper.wp execOp
  simp only [ho, resolve, invoke, builtin, Sem.run_bind, Sem.run_pure, Result.andThen_ok, List.map_toArray, List.map_cons, List.map_nil, hs, hx, hr]
  exact hK _ _ (h g cap w' h2 hor)

theorem cell2 (w : World) (o : Obj) (cs : Array Value) (i : Nat) (v : Value) (h : cs[i]? = some v) : ((w.alloc o).alloc (.cells cs 27)).cell? ⟨w.heap.size + 1, i, none⟩ = some v := by
  have := heap_alloc_last (w.alloc o) (.cells cs 27)
  rw [show (w.alloc o).heap.size = w.heap.size + 1 by simp] at this
  unfold World.cell?
  simp only [this]
  exact h
def updC (Z : Nat → List (Nat × Nat)) (k : Nat) (L : List (Nat × Nat)) : Nat → List (Nat × Nat) := fun j => if j = k then L else Z j
theorem updC_same (Z : Nat → List (Nat × Nat)) (k : Nat) (L : List (Nat × Nat)) : updC Z k L k = L := by simp [updC]
theorem updC_other (Z : Nat → List (Nat × Nat)) {k j : Nat} (L : List (Nat × Nat)) (h : ¬ j = k) : updC Z k L j = Z j := by simp [updC, h]
theorem msetC (k : Nat) (L : List (Nat × Nat)) (i : Nat) (h : i < L.length) : sv (mks k (i + 1) ++ L.drop (i + 1)) = ((sv (mks k i ++ L.drop i)).set (i * 2) (.int .u32 ((mkS k i).1 : Nat))).set (i * 2 + 1) (.int .u32 ((mkS k i).2 : Nat)) := by
  have hl : (sv (mks k i)).length = i * 2 := by rw [sv_len, mks_len]
  rw [mks_succ, List.drop_eq_getElem_cons h, sv_append, sv_append, sv_append]
  have e : sv (L[i] :: L.drop (i + 1)) = .int .u32 L[i].1 :: .int .u32 L[i].2 :: sv (L.drop (i + 1)) := rfl
  rw [e, List.set_append_right _ _ (by omega), List.set_append_right _ _ (by omega), hl]
  simp [sv]
def gvalC (ℓ gb gc : Nat → Nat) (j : Nat) : Value := .slice (some ⟨gb j, 0, none⟩) (ℓ j + 64) (gc j)
structure StC (w0 : World) (B : Nat) (lo : Option Addr) (lc n : Nat) (vals : Nat → Value) (ℓ : Nat → Nat) (k k' : Nat) (gb gc : Nat → Nat) (vgs : Value) (wr : World) : Prop where
  ls : wr.ownsRow B 30 1 (.slice lo n lc) n ((List.range n).map vals)
  gs : wr.ownsRow B 30 1 vgs k ((List.range k).map (gvalC ℓ gb gc))
  lg : (Value.slice lo n lc).ownBlock = none ∨ (Value.slice lo n lc).ownBlock ≠ vgs.ownBlock
  gf : ∀ b, vgs.ownBlock = some b → w0.heap.size ≤ b
  rest : ∀ j, k' ≤ j → j < n → wr.ownsRow B 27 2 (vals j) (ℓ j) (sv (mks (j + 1) (ℓ j)))
  old : ∀ j, j < k' → ∀ b, (vals j).ownBlock = some b → RowC wr b (mks (j + 1) (ℓ j))
  new : ∀ j, j < k → RowC wr (gb j) (mks (j + 1) (ℓ j + 64)) ∧ ∀ i, i < n → i ≠ j → (vals i).ownBlock ≠ some (gb j)
  tch : Touch n vals w0 wr
theorem StC.same {w0 wr w5 : World} {B : Nat} {lo : Option Addr} {lc n : Nat} {vals : Nat → Value} {ℓ gb gc : Nat → Nat} {k k' : Nat} {vgs : Value} {o : Obj} (h : StC w0 B lo lc n vals ℓ k k' gb gc vgs wr) (hg : (wr.alloc o).grownBy w5 none) : StC w0 B lo lc n vals ℓ k k' gb gc vgs w5 :=
  ⟨(h.ls.alloc o).kept hg (by cases hq : (Value.slice lo n lc).ownBlock <;> simp), (h.gs.alloc o).kept hg (by cases hq : vgs.ownBlock <;> simp), h.lg, h.gf,
    fun j h1 h2 => ((h.rest j h1 h2).alloc o).kept hg (by cases hq : (vals j).ownBlock <;> simp), fun j h1 b hb => (h.old j h1 b hb).grown hg (by simp), fun j h1 => ⟨(h.new j h1).1.grown hg (by simp), (h.new j h1).2⟩,
    h.tch.alloc_grown hg (fun b e => by cases e)⟩
theorem StC.place {w0 wr w5 : World} {B : Nat} {lo : Option Addr} {lc n : Nat} {vals : Nat → Value} {ℓ gb gc : Nat → Nat} {k g m c c5 : Nat} {vgs : Value} {o : Obj} {L : List (Nat × Nat)} (h : StC w0 B lo lc n vals ℓ k (k + 1) gb gc vgs wr)
    (hk : k < n) (hv : wr.ownsRow B 27 2 (.slice (some ⟨g, 0, none⟩) m c) m (sv L)) (hg : (wr.alloc o).grownBy w5 (some g)) (h5 : w5.ownsRow B 27 2 (.slice (some ⟨g, 0, none⟩) (m + 1) c5) (m + 1) (sv (mks (k + 1) (m + 1)))) (hm : ℓ k ≤ m)
    (hc1 : ∀ j, j < n → j ≠ k → (vals j).ownBlock ≠ some g) (hc2 : ∀ j, j < k → gb j ≠ g) (hd : (vals k).ownBlock = some g ∨ w0.heap.size ≤ g) : StC w0 B lo lc n vals ℓ k (k + 1) gb gc vgs w5 := by
  refine ⟨(h.ls.alloc o).kept hg ?_, (h.gs.alloc o).kept hg ?_, h.lg, h.gf, fun j h1 h2 => ((h.rest j h1 h2).alloc o).kept hg (.inr (hc1 j h2 (by omega))), fun j h1 b hb => ?_, fun j h1 => ⟨(h.new j h1).1.grown hg ?_, (h.new j h1).2⟩, h.tch.alloc_grown hg ?_⟩
  · have := rows_type (e := 30) (e' := 27) (by decide) h.ls hv
    simpa [Value.ownBlock] using this
  · have := rows_type (e := 30) (e' := 27) (by decide) h.gs hv
    simpa [Value.ownBlock] using this
  · by_cases hbg : b = g
    · subst hbg
      have hjk : j = k := Classical.byContradiction fun hne => hc1 j (by omega) hne hb
      subst hjk
      refine RowC.of_own h5 ?_
      rw [mks_len, show m + 1 = ℓ j + (m + 1 - ℓ j) by omega]
      exact mks_take _ _ _
    · exact (h.old j h1 b hb).grown hg (fun e => hbg (by simpa using e.symm))
  · exact fun e => hc2 j h1 (by simpa using e.symm)
  · intro b e
    simp only [Option.some.injEq] at e
    subst e
    rcases hd with hd | hd
    · exact .inl ⟨k, hk, hd⟩
    · exact .inr hd

theorem StC.alloc {w0 wr : World} {B : Nat} {lo : Option Addr} {lc n : Nat} {vals : Nat → Value} {ℓ gb gc : Nat → Nat} {k k' : Nat} {vgs : Value} (h : StC w0 B lo lc n vals ℓ k k' gb gc vgs wr) (o : Obj) : StC w0 B lo lc n vals ℓ k k' gb gc vgs (wr.alloc o) :=
  ⟨h.ls.alloc o, h.gs.alloc o, h.lg, h.gf, fun j h1 h2 => (h.rest j h1 h2).alloc o, fun j h1 b hb => (h.old j h1 b hb).alloc o, fun j h1 => ⟨(h.new j h1).1.alloc o, (h.new j h1).2⟩, h.tch.alloc o⟩

set_option maxRecDepth 100000 in
set_option maxHeartbeats 4000000 in
theorem apartS_any (lo : Option Addr) (lc n B : Nat) (vals : Nat → Value) (Z : Nat → List (Nat × Nat)) (w : World) (hn : n ≤ 4194304) (hl : ∀ i, i < n → (Z i).length ≤ 67108864) (hB : B ≤ w.heap.size) (hO : OwnC w B lo lc n vals Z) :
    Calls Try.prog 21 #[.slice lo n lc] w fun e w' => e = .returned (.bool true) ∧ Touch n vals w w' := by
  obtain ⟨i0, hi, hz0, hz1, hz2⟩ := info_parts Try.infoS
  obtain ⟨j0, hj, hy0, hy1, hy2⟩ := info_parts Try.infoSL
  have HV : Hid (∀ i, i < n → ∃ a c, vals i = .slice a (Z i).length c) := fun i hi => own_form0' (hO.each i hi)
  have HL : Hid (∀ i, i < n → (Z i).length ≤ 67108864) := hl
  clear hl
  go_enter Try.func21, Try.ntmps21
  go_wp2_with fail
  go_loopw [3] (fun i wr => ∃ (k : Nat) (Y : Nat → List (Nat × Nat)), k ≤ n ∧ i = .int .i64 k ∧ (∀ j, j < n → (Y j).length = (Z j).length) ∧ (∀ j, j < k → Y j = mks (j + 1) (Z j).length) ∧ OwnC wr B lo lc n vals Y ∧ Touch n vals w wr)
    (fun i _ => n - (intOf i).toNat)
  case atStart => exact ⟨0, Z, Nat.zero_le _, rfl, fun _ _ => rfl, fun j hj => absurd hj (Nat.not_lt_zero _), hO, Touch.refl _ _ _⟩
  case round =>
    clear hO
    obtain ⟨k, Y, hk, rfl, hYl, hYm, hO, hT⟩ := hrel
    by_cases hlt : k < n
    · obtain ⟨g0, rfl⟩ := own_pos' hO.row (by omega)
      obtain ⟨ak, ck, hvk⟩ := HV.out k hlt
      have hlk := HL.out k hlt
      have HYl : Hid (∀ j, j < n → (Y j).length = (Z j).length) := hYl
      have HYm : Hid (∀ j, j < k → Y j = mks (j + 1) (Z j).length) := hYm
      have HVK : Hid (vals k = .slice ak (Z k).length ck) := hvk
      have hlI : (k : Int) < (n : Int) := by omega
      clear hYl hYm hvk
      go_wp2_with fail
      go_loopw [4] (fun i wi => ∃ e : Nat, e ≤ (Z k).length ∧ i = .int .i64 e ∧ OwnC wi B (some ⟨g0, 0, none⟩) lc n vals (updC Y k (mks (k + 1) e ++ (Y k).drop e)) ∧ Touch n vals w wi)
        (fun i _ => (Z k).length - (intOf i).toNat)
      case atStart => exact ⟨0, Nat.zero_le _, rfl, by
        have e : updC Y k (mks (k + 1) 0 ++ (Y k).drop 0) = Y := by funext j; by_cases h : j = k <;> simp [updC, h, mks]
        rw [e]; exact hO, hT⟩
      case round =>
        clear hO hT
        obtain ⟨e, he, rfl, hO, hT⟩ := hrel
        have hc0 := own_at hO.row hlt
        rw [HVK.out] at hc0
        by_cases hlt2 : e < (Z k).length
        · have hown := hO.each k hlt
          rw [updC_same, HVK.out] at hown
          have hln : (mks (k + 1) e ++ (Y k).drop e).length = (Z k).length := by
            have := HYl.out k hlt
            simp [mks_len]; omega
          rw [hln] at hown
          obtain ⟨gk, rfl⟩ := own_pos' hown (by omega)
          have hM : ∀ W1 : World, Calls Try.prog 43 #[.int .i64 ((k : Int) + 1), .int .i64 (e : Int)] W1 fun e' w' => e' = .returned (.agg #[.int .u32 ((mkS (k + 1) e).1 : Nat), .int .u32 ((mkS (k + 1) e).2 : Nat)]) ∧ w' = W1.alloc (.cells #[.int .u32 ((mkS (k + 1) e).1 : Nat), .int .u32 ((mkS (k + 1) e).2 : Nat)] 27) := fun W1 => by
            have := markS_any (k + 1) e W1 (by omega) (by omega)
            push_cast at this ⊢
            exact this
          obtain ⟨m1, hm1⟩ : ∃ m1 : Int, (((mkS (k + 1) e).1 : Nat) : Int) = m1 := ⟨_, rfl⟩
          obtain ⟨m2, hm2⟩ : ∃ m2 : Int, (((mkS (k + 1) e).2 : Nat) : Int) = m2 := ⟨_, rfl⟩
          have hset := msetC (k + 1) (Y k) e (by rw [HYl.out k hlt]; exact hlt2)
          obtain ⟨c0, c1⟩ := sv_get (mks (k + 1) e ++ (Y k).drop e) e (by rw [hln]; exact hlt2)
          rw [hm1, hm2] at hM hset
          have HMM := hid_of hM
          have x0 := hown.cells (g := gk) rfl _ _ c0
          have x1 := hown.cells (g := gk) rfl _ _ c1
          rw [Go.WideShapes.add_plain, Nat.zero_add] at x0 x1
          have y0 := hown.frozenAt (e * 2)
          have y1 := hown.frozenAt (e * 2 + 1)
          obtain ⟨R1, G1⟩ := hown.stored (e * 2) (.int .u32 m1)
          have hx1 : ((sv (mks (k + 1) e ++ (Y k).drop e)).set (e * 2) (.int .u32 m1))[e * 2 + 1]? = some (.int .u32 ((mks (k + 1) e ++ (Y k).drop e).getD e (0, 0)).2) := by
            rw [List.getElem?_set_ne (by omega)]; exact c1
          have x2 := R1.cells (g := gk) rfl _ _ hx1
          rw [Go.WideShapes.add_plain, Nat.zero_add] at x2
          have y2 := R1.frozenAt (e * 2 + 1)
          obtain ⟨R2, G2⟩ := R1.stored (e * 2 + 1) (.int .u32 m2)
          rw [← hset] at R2
          have hblk : (vals k).ownBlock = some gk := by rw [HVK.out]; rfl
          have HO2 : Hid (OwnC ((wr.setCell ⟨gk, e * 2, none⟩ (.int .u32 m1)).setCell ⟨gk, e * 2 + 1, none⟩ (.int .u32 m2)) B (some ⟨g0, 0, none⟩) lc n vals (updC Y k (mks (k + 1) (e + 1) ++ (Y k).drop (e + 1)))) := by
            refine ⟨(hO.row.kept G1 ?_).kept G2 ?_, fun j hj => ?_, hO.apart⟩
            · have := rows_type (e := 30) (e' := 27) (by decide) hO.row hown
              simpa [Value.ownBlock] using this
            · have := rows_type (e := 30) (e' := 27) (by decide) hO.row hown
              simpa [Value.ownBlock] using this
            · by_cases hjk : j = k
              · subst hjk
                rw [updC_same, HVK.out, show (mks (j + 1) (e + 1) ++ (Y j).drop (e + 1)).length = (Z j).length by have := HYl.out j hj; simp [mks_len]; omega]
                exact R2
              · have h3 := hO.each j hj
                rw [updC_other _ _ hjk] at h3 ⊢
                have h4 := hO.apart j k hj hlt hjk
                rw [hblk] at h4
                exact (h3.kept G1 h4).kept G2 h4
          have HT2 : Hid (Touch n vals w ((wr.setCell ⟨gk, e * 2, none⟩ (.int .u32 m1)).setCell ⟨gk, e * 2 + 1, none⟩ (.int .u32 m2)))   := (hT.trans (Touch.of_grown hlt (by rw [hblk]; exact G1))).trans (Touch.of_grown hlt (by rw [hblk]; exact G2))
          have hgw : gk < wr.heap.size := (hown.lt gk rfl).2
          have hgw0 : g0 < wr.heap.size := (hO.row.lt g0 rfl).2
          generalize ((mks (k + 1) e ++ (Y k).drop e).getD e (0, 0)).1 = q0 at x0
          generalize ((mks (k + 1) e ++ (Y k).drop e).getD e (0, 0)).2 = q1 at x1 x2
          have hltI2 : (e : Int) < ((Z k).length : Int) := by omega
          have hwr : IntKind.i64.wrap ((k : Int) + 1) = (k : Int) + 1 := by rw [IntKind.wrap_i64]; omega
          clear hO hM hown hT R1 R2 G1 G2 hx1 c0 c1 hset hm1 hm2 hln hblk
          go_wp2_with fail
          have HGC : ∀ W : World, Below wr.heap.size wr W → W.cell? ⟨g0, k, none⟩ = some (.slice (some ⟨gk, 0, none⟩) (Z k).length ck) := fun W hW => (hW.cell (p := ⟨g0, k, none⟩) hgw0).trans hc0
          have HB : Below wr.heap.size wr wr := Below.refl _ _
          have HGS : ((((wr.setCell ⟨gk, e * 2, none⟩ (.int .u32 m1)).setCell ⟨gk, e * 2 + 1, none⟩ (.int .u32 m2)).alloc (.cells #[.int .u32 m1, .int .u32 m2] 27)).drew).cell? ⟨g0, k, none⟩ = some (.slice (some ⟨gk, 0, none⟩) (Z k).length ck) := by
            have := own_at (HO2.out.alloc (.cells #[.int .u32 m1, .int .u32 m2] 27)).drew.row hlt
            rw [HVK.out] at this; exact this
          go_region_held3 (fun w' => w'.cell? ⟨g0, k, none⟩ = some (.slice (some ⟨gk, 0, none⟩) (Z k).length ck)) ((first | exact HGS | (refine HGC _ ?_; (repeat (first | exact HB | exact Below.refl _ _ | with_reducible refine bel ?_ | with_reducible refine Below.drew ?_))))) (first
            | (go_at_call 43; with_reducible refine (HMM.out _).mono ?_; rintro e' wq ⟨rfl, hq⟩; subst wq))
          clear x0 x1 x2 y0 y1 y2 HGC HB HMM HGS
          go_wp2_with fail
          go_roundw
          case rel => exact ⟨e + 1, by omega, by go_num, (HO2.out.alloc _).drew, (HT2.out.alloc _).trans ⟨rfl, rfl, rfl, Nat.le_refl _, fun _ _ _ => rfl⟩⟩
          case measure => simp [intOf]; omega
        · obtain rfl : e = (Z k).length := by omega
          have hltI2 : ¬ ((Z k).length : Int) < ((Z k).length : Int) := by omega
          have HO2 : Hid (OwnC wr B (some ⟨g0, 0, none⟩) lc n vals (updC Y k (mks (k + 1) (Z k).length))) := by
            have := hO
            rw [List.drop_of_length_le (by rw [HYl.out k hlt]; exact Nat.le_refl _), List.append_nil] at this
            exact this
          clear hO
          go_wp2_with fail
          go_roundw
          case rel =>
            refine ⟨k + 1, updC Y k (mks (k + 1) (Z k).length), by omega, by go_num, fun j hj => ?_, fun j hj => ?_, HO2.out, hT⟩
            · by_cases h : j = k
              · subst h; rw [updC_same, mks_len]
              · rw [updC_other _ _ h]; exact HYl.out j hj
            · by_cases h : j = k
              · subst h; rw [updC_same]
              · rw [updC_other _ _ h]; exact HYm.out j (by omega)
          case measure => simp [intOf]; omega
    · obtain rfl : k = n := by omega
      have hsz := hT.size
      have HB : Hid (∀ j, j < k → ∀ b, (vals j).ownBlock = some b → b < wr.heap.size ∧ B ≤ b) := fun j hj b hb => ⟨((hO.each j hj).lt b hb).2, ((hO.each j hj).lt b hb).1⟩
      have HAP : Hid (∀ i j, i < k → j < k → i ≠ j → (vals i).ownBlock = none ∨ (vals i).ownBlock ≠ (vals j).ownBlock) := hO.apart
      have HVV : Hid (∀ i, i < k → ∃ a c, vals i = .slice a (Z i).length c) := HV.out
      generalize wr = wo at *
      have hSt0 : StC wo B lo lc k vals (fun j => (Z j).length) 0 0 (fun _ => 0) (fun _ => 0) (.slice none 0 0) wo := by
        refine ⟨hO.row, World.ownsRow_nil _ _ _ _, ?_, fun b e => by simp [Value.ownBlock] at e, fun j _ hj => ?_, fun j hj => absurd hj (Nat.not_lt_zero _), fun j hj => absurd hj (Nat.not_lt_zero _), Touch.refl _ _ _⟩
        · cases hq : (Value.slice lo k lc).ownBlock <;> simp [Value.ownBlock]
        · have := hO.each j hj
          rwa [hYm j hj, mks_len] at this
      have HT0 : Hid (Touch k vals w wo) := hT
      have HSR : Hid (∀ j, j < k → wo.ownsRow B 27 2 (vals j) (Z j).length (sv (mks (j + 1) (Z j).length))) := fun j hj => hSt0.rest j (Nat.zero_le _) hj
      have hlI : ¬ (k : Int) < (k : Int) := by omega
      clear hO hT hYl hYm HV
      go_wp2_with fail
      go_loopw [5, 6] (fun vgs i wr => ∃ (q : Nat) (gb gc : Nat → Nat), q ≤ k ∧ i = .int .i64 q ∧ StC wo B lo lc k vals (fun j => (Z j).length) q q gb gc vgs wr)
        (fun _ i _ => k - (intOf i).toNat)
      case atStart => exact ⟨0, _, _, Nat.zero_le _, rfl, hSt0⟩
      case round =>
        clear hSt0
        obtain ⟨q, gb, gc, hq, rfl, hSt⟩ := hrel
        by_cases hlt : q < k
        · obtain ⟨g0, rfl⟩ := own_pos' hSt.ls (by omega)
          obtain ⟨ak, ck, hvk⟩ := HVV.out q hlt
          have hlq := HL.out q hlt
          have hc0 := own_at hSt.ls hlt
          rw [hvk] at hc0
          have HVK : Hid (vals q = .slice ak (Z q).length ck) := hvk
          have hqI : (q : Int) < (k : Int) := by omega
          have hSt1 : StC wo B (some ⟨g0, 0, none⟩) lc k vals (fun j => (Z j).length) q (q + 1) gb gc u5 wr := by
            refine ⟨hSt.ls, hSt.gs, hSt.lg, hSt.gf, fun j h1 h2 => hSt.rest j (by omega) h2, fun j h1 b hb => ?_, hSt.new, hSt.tch⟩
            by_cases hj : j = q
            · subst hj
              have := hSt.rest j (Nat.le_refl _) hlt
              rw [HVK.out] at this hb
              have hak : ak = some ⟨b, 0, none⟩ := by
                rcases this.2 with ⟨e, hz⟩ | ⟨g, cap, cur, e, _⟩
                · rw [e] at hb; simp [Value.ownBlock] at hb
                · simp only [Value.slice.injEq] at e
                  rw [e.1] at hb ⊢
                  simp only [Value.ownBlock, Option.some.injEq] at hb
                  rw [hb]
              subst hak
              exact RowC.of_own this (by rw [List.take_length])
            · exact hSt.old j (by omega) b hb
          have hown0 := hSt.rest q (Nat.le_refl _) hlt
          rw [HVK.out] at hown0
          have hC0 : ∀ b, (Value.slice ak (Z q).length ck).ownBlock = some b → (∀ j, j < k → j ≠ q → (vals j).ownBlock ≠ some b) ∧ (∀ j, j < q → gb j ≠ b) ∧ ((vals q).ownBlock = some b ∨ wo.heap.size ≤ b) := by
            intro b hb
            have hb' : (vals q).ownBlock = some b := by rw [HVK.out]; exact hb
            refine ⟨fun j hj hne e => ?_, fun j hj e => ?_, .inl hb'⟩
            · rcases HAP.out j q hj hlt hne with h | h
              · rw [h] at e; cases e
              · rw [e, hb'] at h; exact h rfl
            · exact (hSt.new j hj).2 q hlt (by omega) (by rw [e]; exact hb')
          have HC0 : Hid (∀ b, (Value.slice ak (Z q).length ck).ownBlock = some b → (∀ j, j < k → j ≠ q → (vals j).ownBlock ≠ some b) ∧ (∀ j, j < q → gb j ≠ b) ∧ ((vals q).ownBlock = some b ∨ wo.heap.size ≤ b)) := hC0
          generalize u5 = vgs at *
          clear hSt hC0 hvk
          go_wp2_with fail
          go_loopw [7, 8] (fun vg i wi => ∃ j : Nat, j ≤ 64 ∧ i = .int .i64 j ∧ wi.ownsRow B 27 2 vg ((Z q).length + j) (sv (mks (q + 1) ((Z q).length + j))) ∧ (∀ b, vg.ownBlock = some b → (∀ j, j < k → j ≠ q → (vals j).ownBlock ≠ some b) ∧ (∀ j, j < q → gb j ≠ b) ∧ ((vals q).ownBlock = some b ∨ wo.heap.size ≤ b)) ∧ StC wo B (some ⟨g0, 0, none⟩) lc k vals (fun j => (Z j).length) q (q + 1) gb gc vgs wi)
            (fun _ i _ => 64 - (intOf i).toNat)
          case atStart => exact ⟨0, by omega, rfl, hown0, HC0.out, hSt1⟩
          case round =>
            clear hown0 HC0 hSt1 hc0
            obtain ⟨j, hj64, rfl, hown, hC, hSt⟩ := hrel
            have HC : Hid (∀ b, u7.ownBlock = some b → (∀ j, j < k → j ≠ q → (vals j).ownBlock ≠ some b) ∧ (∀ j, j < q → gb j ≠ b) ∧ ((vals q).ownBlock = some b ∨ wo.heap.size ≤ b)) := hC
            clear hC
            have hc0 := own_at hSt.ls hlt
            rw [HVK.out] at hc0
            have hsw := hSt.tch.size
            have hBw : B ≤ wr.heap.size := by omega
            by_cases hlt2 : j < 64
            · obtain ⟨m1, hm1⟩ : ∃ m1 : Int, (((mkS (q + 1) ((Z q).length + j)).1 : Nat) : Int) = m1 := ⟨_, rfl⟩
              obtain ⟨m2, hm2⟩ : ∃ m2 : Int, (((mkS (q + 1) ((Z q).length + j)).2 : Nat) : Int) = m2 := ⟨_, rfl⟩
              have hM : ∀ W1 : World, Calls Try.prog 43 #[.int .i64 ((q : Int) + 1), .int .i64 (((Z q).length : Int) + (j : Int))] W1 fun e' w' => e' = .returned (.agg #[.int .u32 m1, .int .u32 m2]) ∧ w' = W1.alloc (.cells #[.int .u32 m1, .int .u32 m2] 27) := fun W1 => by
                have := markS_any (q + 1) ((Z q).length + j) W1 (by omega) (by omega)
                rw [hm1, hm2] at this
                push_cast at this ⊢
                exact this
              have HMM := hid_of hM
              have HMS : Hid (sv (mks (q + 1) ((Z q).length + j + 1)) = sv (mks (q + 1) ((Z q).length + j)) ++ [.int .u32 m1, .int .u32 m2]) := by
                rw [Hid, mks_succ, sv_append, sv_one2, hm1, hm2]
              clear hM hm1 hm2
              have hg0w : g0 < wr.heap.size := (hSt.ls.lt g0 rfl).2
              go_wp2_with fail
              with_reducible refine (HMM.out _).mono ?_
              rintro e wq ⟨rfl, hq'⟩
              subst wq
              have hSa := hSt.alloc (.cells #[.int .u32 m1, .int .u32 m2] 27)
              have hoa := hown.alloc (.cells #[.int .u32 m1, .int .u32 m2] 27)
              go_wp2_with (at_builtin; refine wpList_append_keepC rfl _ _ rfl B i0 hi hz0 hz1 hz2 _ _ _ rfl (hoa.alloc _) ⟨_, 0, none⟩ 1 [.int .u32 m1, .int .u32 m2] rfl rfl ?c1 ?c2 ?c4 ?c5 ?_)
              case c1 =>
                intro j u hj
                match j, hj with
                | 0, hj => simp at hj; subst hj; simp [Addr.add]
                | 1, hj => simp at hj; subst hj; simp [Addr.add]
              case c2 => intro u hu; simp at hu; rcases hu with rfl | rfl <;> rfl
              case c4 => omega
              case c5 => simp; omega
              intro g5 cap5 w5 hown5 hor
              rw [← HMS.out] at hown5
              have hfin : (∀ b, (Value.slice (some ⟨g5, 0, none⟩) ((Z q).length + j + 1) cap5).ownBlock = some b → (∀ j, j < k → j ≠ q → (vals j).ownBlock ≠ some b) ∧ (∀ j, j < q → gb j ≠ b) ∧ ((vals q).ownBlock = some b ∨ wo.heap.size ≤ b)) ∧ StC wo B (some ⟨g0, 0, none⟩) lc k vals (fun j => (Z j).length) q (q + 1) gb gc vgs w5 := by
                rcases hor with ⟨he, hg⟩ | ⟨he, hg⟩
                · obtain ⟨h1, h2, h3⟩ := HC.out g5 he
                  obtain ⟨g6, c6, hv6⟩ : ∃ g6 c6, u7 = .slice (some ⟨g6, 0, none⟩) ((Z q).length + j) c6 := by
                    rcases hown.2 with ⟨e, _⟩ | ⟨g, cap, cur, e, _⟩
                    · rw [e] at he; simp [Value.ownBlock] at he
                    · exact ⟨g, cap, e⟩
                  subst hv6
                  have : g6 = g5 := by simpa [Value.ownBlock] using he
                  subst this
                  exact ⟨fun b hb => by have : g6 = b := by simpa [Value.ownBlock] using hb
                                        subst this; exact ⟨h1, h2, h3⟩, hSa.place hlt hoa hg hown5 (by show (Z q).length ≤ _; omega) h1 h2 h3⟩
                · refine ⟨fun b hb => ?_, hSa.same hg⟩
                  have hbe : g5 = b := by simpa [Value.ownBlock] using hb
                  subst hbe
                  rw [he]
                  refine ⟨fun j hj _ e => ?_, fun j hj e => ?_, .inr (by first | omega | (simp; omega))⟩
                  · have := (HB.out j hj _ e).1
                    first | omega | (simp at this; omega)
                  · have := (hSt.new j hj).1.lt
                    rw [e] at this
                    first | omega | (simp at this; omega)
              clear hor hown hSt hSa hoa
              go_wp2_with fail
              go_roundw
              case rel => exact ⟨j + 1, by omega, by go_num, hown5, hfin.1, hfin.2⟩
              case measure => simp [intOf]; omega
            · obtain rfl : j = 64 := by omega
              obtain ⟨g5, c5, rfl, hc5⟩ := own_form hown (by omega)
              obtain ⟨h1, h2, _⟩ := HC.out g5 rfl
              go_wp2_with (at_builtin; refine wpList_append_lies _ rfl _ _ 28 rfl B 30 j0 (.slice none 0 0) 1 24 Try.underlying28 hj hy0 hy1 hy2 rfl (by decide) _ _ _ rfl (hSt.gs.alloc _) ⟨_, 0, none⟩ 1 1 [.slice (some ⟨g5, 0, none⟩) ((Z q).length + 64) c5] rfl rfl ?d1 ?d2 (by decide) ?d3 ?d4 ?d5 (wr.heap.size + 1) (by simp) ?_)
              case d1 =>
                intro j u hj
                match j, hj with
                | 0, hj => simp at hj; subst hj; simp [Addr.add]
              case d2 => intro u hu; simp at hu; subst hu; rfl
              case d3 => unfold maxLen; omega
              case d4 => omega
              case d5 => simp; omega
              intro g6 cap6 w6 hown6 hgrow hor _
              have hSt2 : StC wo B (some ⟨g0, 0, none⟩) lc k vals (fun j => (Z j).length) (q + 1) (q + 1) (fun j => if j = q then g5 else gb j) (fun j => if j = q then c5 else gc j) (.slice (some ⟨g6, 0, none⟩) (q + 1) cap6) w6 := by
                refine ⟨(hSt.ls.alloc _).kept hgrow hSt.lg, ?_, ?_, fun b hb => ?_, fun j ha hb => ((hSt.rest j ha hb).alloc _).kept hgrow (rows_type (e := 27) (e' := 30) (by decide) (hSt.rest j ha hb) hSt.gs), fun j ha b hb => (hSt.old j ha b hb).grown hgrow ((hSt.old j ha b hb).type (by decide) hSt.gs), fun j ha => ?_, hSt.tch.alloc_grown hgrow (fun b hb => .inr (hSt.gf b hb))⟩
                · have e : (List.range (q + 1)).map (gvalC (fun j => (Z j).length) (fun j => if j = q then g5 else gb j) (fun j => if j = q then c5 else gc j)) = (List.range q).map (gvalC (fun j => (Z j).length) gb gc) ++ [.slice (some ⟨g5, 0, none⟩) ((Z q).length + 64) c5] := by
                    rw [List.range_succ, List.map_append]
                    congr 1
                    · refine List.map_congr_left fun j hj => ?_
                      have : ¬ j = q := by have := List.mem_range.1 hj; omega
                      simp [gvalC, this]
                    · simp [gvalC]
                  rw [e]; exact hown6
                · rcases hor with h | h
                  · have e := hSt.lg
                    rw [h] at e; exact e
                  · right
                    intro e
                    have : g0 = g6 := by simpa [Value.ownBlock] using e
                    have h' := (hSt.ls.lt g0 rfl).2
                    omega
                · have hbe : g6 = b := by simpa [Value.ownBlock] using hb
                  subst hbe
                  rcases hor with h | h
                  · exact hSt.gf _ h
                  · omega
                · by_cases hj : j = q
                  · subst hj
                    simp only [if_true]
                    refine ⟨RowC.of_own ((hown.alloc _).kept hgrow (rows_type (e := 27) (e' := 30) (by decide) hown hSt.gs)) (by rw [List.take_length]), fun i hi hne => h1 i hi hne⟩
                  · simp only [if_neg hj]
                    have hn := hSt.new j (by omega)
                    exact ⟨hn.1.grown hgrow (hn.1.type (by decide) hSt.gs), hn.2⟩
              clear hown hSt hgrow hor hown6 HC
              go_wp2_with fail
              go_roundw
              case rel => exact ⟨q + 1, _, _, by omega, by go_num, hSt2⟩
              case measure => simp [intOf]; omega
        · obtain rfl : q = k := by omega
          have HT1 : Hid (Touch q vals w wr) := HT0.out.trans hSt.tch
          have hlI2 : ¬ (q : Int) < (q : Int) := by omega
          obtain ⟨ag, cg, hvg⟩ := own_form0' hSt.gs
          subst hvg
          have HS : Hid (StC wo B lo lc q vals (fun j => (Z j).length) q q gb gc (.slice ag q cg) wr) := hSt
          clear hSt
          generalize wr = wz at *
          go_wp2_with fail
          go_loopw [9] (fun i wi => ∃ a : Nat, a ≤ q ∧ i = .int .i64 a ∧ Below wz.heap.size wz wi) (fun i _ => q - (intOf i).toNat)
          case atStart => exact ⟨0, Nat.zero_le _, rfl, Below.refl _ _⟩
          case round =>
            obtain ⟨a, ha, rfl, hbz⟩ := hrel
            by_cases hlt : a < q
            · obtain ⟨g0, rfl⟩ := own_pos' HS.out.ls (by omega)
              obtain ⟨gg, rfl⟩ := own_pos' HS.out.gs (by omega)
              obtain ⟨ak, ck, hvk⟩ := HVV.out a hlt
              have hla := HL.out a hlt
              have hcl := own_at HS.out.ls hlt
              have hcg := own_at HS.out.gs hlt
              have hg0 := (HS.out.ls.lt g0 rfl).2
              have hgg := (HS.out.gs.lt gg rfl).2
              rw [hvk] at hcl
              simp only [gvalC] at hcg
              have haI : (a : Int) < (q : Int) := by omega
              have HN : Hid (gb a < wz.heap.size ∧ ∀ i, i < (Z a).length + 64 → wz.cell? ⟨gb a, i * 2, none⟩ = some (.int .u32 ((mkS (a + 1) i).1 : Nat)) ∧ wz.cell? ⟨gb a, i * 2 + 1, none⟩ = some (.int .u32 ((mkS (a + 1) i).2 : Nat))) := ⟨(HS.out.new a hlt).1.lt, fun i hi => by
                have := (HS.out.new a hlt).1.cell (i := i) (by rw [mks_len]; exact hi)
                rw [mks_getD _ _ _ hi] at this
                exact this⟩
              have HOl : Hid (∀ i, i < (Z a).length → ∃ b, ak = some ⟨b, 0, none⟩ ∧ b < wz.heap.size ∧ wz.cell? ⟨b, i * 2, none⟩ = some (.int .u32 ((mkS (a + 1) i).1 : Nat)) ∧ wz.cell? ⟨b, i * 2 + 1, none⟩ = some (.int .u32 ((mkS (a + 1) i).2 : Nat))) := fun i hi => by
                have hak : ∃ b, ak = some ⟨b, 0, none⟩ ∧ (vals a).ownBlock = some b := by
                  have hh := HSR.out a hlt
                  rw [hvk] at hh ⊢
                  obtain ⟨b, rfl⟩ := own_pos' hh (by omega)
                  exact ⟨b, rfl, rfl⟩
                obtain ⟨b, e1, e2⟩ := hak
                have := (HS.out.old a hlt b e2).cell (i := i) (by rw [mks_len]; exact hi)
                rw [mks_getD _ _ _ hi] at this
                exact ⟨b, e1, (HS.out.old a hlt b e2).lt, this⟩
              clear hvk
              generalize gb a = gba at *
              generalize gc a = gca at *
              have hclr := (hbz.cell (p := ⟨g0, a, none⟩) hg0).trans hcl
              have hcgr := (hbz.cell (p := ⟨gg, a, none⟩) hgg).trans hcg
              go_wp2_with fail
              go_loopw [10] (fun i wi => ∃ e : Nat, e ≤ (Z a).length + 64 ∧ i = .int .i64 e ∧ Below wz.heap.size wz wi) (fun i _ => (Z a).length + 64 - (intOf i).toNat)
              case atStart => exact ⟨0, Nat.zero_le _, rfl, hbz⟩
              case round =>
                clear hbz hclr hcgr
                obtain ⟨e, he, rfl, hbz⟩ := hrel
                have hclr := (hbz.cell (p := ⟨g0, a, none⟩) hg0).trans hcl
                have hcgr := (hbz.cell (p := ⟨gg, a, none⟩) hgg).trans hcg
                have hszz := hbz.size
                by_cases hlt2 : e < (Z a).length + 64
                · obtain ⟨hn1, hn2⟩ := HN.out
                  obtain ⟨hn3, hn4⟩ := hn2 e hlt2
                  have hcn3 := (hbz.cell (p := ⟨gba, e * 2, none⟩) hn1).trans hn3
                  have hcn4 := (hbz.cell (p := ⟨gba, e * 2 + 1, none⟩) hn1).trans hn4
                  have hgw : gba < wr.heap.size := by omega
                  obtain ⟨m1, hm1⟩ : ∃ m1 : Int, (((mkS (a + 1) e).1 : Nat) : Int) = m1 := ⟨_, rfl⟩
                  obtain ⟨m2, hm2⟩ : ∃ m2 : Int, (((mkS (a + 1) e).2 : Nat) : Int) = m2 := ⟨_, rfl⟩
                  have hM : ∀ W1 : World, Calls Try.prog 43 #[.int .i64 ((a : Int) + 1), .int .i64 (e : Int)] W1 fun e' w' => e' = .returned (.agg #[.int .u32 m1, .int .u32 m2]) ∧ ∃ q os', w' = grow (W1.drewN q) os' := fun W1 => by
                    have := markS_any (a + 1) e W1 (by omega) (by omega)
                    rw [hm1, hm2] at this
                    push_cast at this ⊢
                    exact this.mono fun e' w' ⟨h1, h2⟩ => ⟨h1, by rw [h2]; exact alloc_gx _ _⟩
                  have HMM := hid_of hM
                  have heI : (e : Int) < ((Z a).length : Int) + 64 := by omega
                  rw [hm1] at hcn3
                  rw [hm2] at hcn4
                  clear hM
                  by_cases hlt3 : e < (Z a).length
                  · obtain ⟨b, rfl, hb1, hb2, hb3⟩ := HOl.out e hlt3
                    have hcb2 := (hbz.cell (p := ⟨b, e * 2, none⟩) hb1).trans hb2
                    have hcb3 := (hbz.cell (p := ⟨b, e * 2 + 1, none⟩) hb1).trans hb3
                    rw [hm1] at hcb2
                    rw [hm2] at hcb3
                    have d3 : decide ((e : Int) < ((Z a).length : Int)) = true := by simp; omega
                    have heI3 : (e : Int) < ((Z a).length : Int) := by omega
                    clear hm1 hm2 hb2 hb3
                    have gcn3 := cell_grown (a := ⟨gba, e * 2, none⟩) hgw hcn3
                    have gcn4 := cell_grown (a := ⟨gba, e * 2 + 1, none⟩) hgw hcn4
                    have gclr := cell_grown (a := ⟨g0, a, none⟩) (by show g0 < wr.heap.size; omega) hclr
                    have gcgr := cell_grown (a := ⟨gg, a, none⟩) (by show gg < wr.heap.size; omega) hcgr
                    have gcb2 := cell_grown (a := ⟨b, e * 2, none⟩) (by show b < wr.heap.size; omega) hcb2
                    have gcb3 := cell_grown (a := ⟨b, e * 2 + 1, none⟩) (by show b < wr.heap.size; omega) hcb3
                    have HB5 := hidS hbz
                    clear hbz hn2 hn3 hn4 hszz
                    have hwa : IntKind.i64.wrap ((a : Int) + 1) = (a : Int) + 1 := by rw [IntKind.wrap_i64]; omega
                    have mixed : Try.prog.follows .mixedOrders = true := by kernel_rfl
                    go_wp2_with fail
                    clear hclr hcgr hcn3 hcn4
                    go_quiet_grown (first | (with_reducible refine Calls.grown_of (HMM.out _)) | fail)
                    go_wp2_with fail
                    go_roundw
                    case rel => exact ⟨e + 1, by omega, by go_num, HB5.out.trans ((below_grow _ _ _).mono HB5.out.size)⟩
                    case measure => simp [intOf]; omega
                  · have HD4 : Hid (¬ e < (Z a).length) := hlt3
                    have gcn3 := cell_grown (a := ⟨gba, e * 2, none⟩) hgw hcn3
                    have gcn4 := cell_grown (a := ⟨gba, e * 2 + 1, none⟩) hgw hcn4
                    have gclr := cell_grown (a := ⟨g0, a, none⟩) (by show g0 < wr.heap.size; omega) hclr
                    have gcgr := cell_grown (a := ⟨gg, a, none⟩) (by show gg < wr.heap.size; omega) hcgr
                    have HB5 := hidS hbz
                    have hwa : IntKind.i64.wrap ((a : Int) + 1) = (a : Int) + 1 := by rw [IntKind.wrap_i64]; omega
                    have mixed : Try.prog.follows .mixedOrders = true := by kernel_rfl
                    clear hbz hn2 hn3 hn4 hszz hm1 hm2 hlt3
                    go_wp2_with fail
                    clear hclr hcgr hcn3 hcn4
                    refine wp_region_quiet_grown (by assumption) (by kernel_rfl) ?_
                    iterate 21 (quiet_step (first | (with_reducible refine Calls.grown_of (HMM.out _)) | fail))
                    iterate 12 (refine wpQuiet_step (fun K hK => ?_); go_simp; rw [if_neg HD4.out]; refine hK _ ?_; clear hK K)
                    iterate 2 (refine wpQuiet_step (fun K hK => ?_); go_simp; (try rw [if_neg HD4.out]); refine hK _ ?_; clear hK K)
                    refine wpQuiet_nil ?_
                    intro _ hw'
                    obtain ⟨⟨nq, osq⟩, hw''⟩ := hw'
                    subst hw''
                    go_wp2_with fail
                    go_roundw
                    case rel => exact ⟨e + 1, by omega, by go_num, HB5.out.trans ((below_grow _ _ _).mono HB5.out.size)⟩
                    case measure => simp [intOf]; omega
                · have heI : ¬ (e : Int) < ((Z a).length : Int) + 64 := by omega
                  go_wp2_with fail
                  go_roundw
                  case rel => exact ⟨a + 1, by omega, by go_num, hbz⟩
                  case measure => simp [intOf]; omega
            · have haI : ¬ (a : Int) < (q : Int) := by omega
              go_wp2_with fail
              go_ret
              exact ⟨rfl, HT1.out.trans (Touch.of_below hbz)⟩
end Go.Proofs.Ytbaigjckimpkmaa
