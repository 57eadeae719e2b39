import Derived.Test.YthfncfmfcbhpfaaJLr
namespace Go.Proofs.Ythfncfmfcbhpfaa
open Go.RowKit Go.WideShapes
set_option maxRecDepth 100000
theorem lr_cell {w : World} {a : Nat} {cs : Array Value} {t : TypeId} {fr : Nat × Nat} (h : w.heap[a]? = some (.cells cs t fr)) (i : Nat) : w.cell? ⟨a, i, none⟩ = cs[i]? := by
  simp [World.cell?, h]
theorem lr_frozen {w : World} {a : Nat} {cs : Array Value} {t : TypeId} (h : w.heap[a]? = some (.cells cs t (0, 0))) (i : Nat) : w.frozen? ⟨a, i, none⟩ = false := by
  simp [World.frozen?, h]
theorem three_new (w : World) (o1 o2 o3 : Obj) : (((w.alloc o1).alloc o2).alloc o3).heap[w.heap.size]? = some o1 ∧ (((w.alloc o1).alloc o2).alloc o3).heap[w.heap.size + 1]? = some o2 ∧ (((w.alloc o1).alloc o2).alloc o3).heap[w.heap.size + 1 + 1]? = some o3 ∧ (((w.alloc o1).alloc o2).alloc o3).heap.size = w.heap.size + 3 ∧ Below w.heap.size w (((w.alloc o1).alloc o2).alloc o3) := by
  refine ⟨?_, ?_, ?_, by simp, (((Below.refl w.heap.size w).alloc (Nat.le_refl _) o1).alloc (by simp) o2).alloc (by simp; omega) o3⟩
  · rw [Below.heap_alloc _ _ _ (by simp; omega), Below.heap_alloc _ _ _ (by simp)]
    exact (MapKept.heap_alloc w o1).1
  · rw [Below.heap_alloc _ _ _ (by simp)]
    have := (MapKept.heap_alloc (w.alloc o1) o2).1
    simpa using this
  · have := (MapKept.heap_alloc ((w.alloc o1).alloc o2) o3).1
    simpa using this
theorem LrS.o2 {w : World} {v : Int} {ar : Option Addr} {cr : Nat} {WS : List RW} {k : Nat} {vf : Value} {E : List LE} {wr : World} (h : LrS w v ar cr WS k vf E wr) : wr.cell? ⟨w.heap.size + 1 + 1, 2, none⟩ = some vf ∧ wr.frozen? ⟨w.heap.size + 1 + 1, 2, none⟩ = false ∧ w.heap.size + 1 + 1 < wr.heap.size ∧ wr.cell? ⟨w.heap.size, 0, none⟩ = some (.int .u32 v) ∧ wr.cell? ⟨w.heap.size, 1, none⟩ = some (.slice ar WS.length cr) :=
  ⟨lr_cell h.out 2, lr_frozen h.out 2, by have := h.lo; omega, lr_cell h.rbox 0, lr_cell h.rbox 1⟩
theorem take_snocR (J : List RW) (k : Nat) (h : k < J.length) : J.take (k + 1) = J.take k ++ [J.getD k rw0] := by
  rw [List.take_add_one, List.getElem?_eq_getElem h]
  simp [List.getD_eq_getElem?_getD, List.getElem?_eq_getElem h]
theorem LrS.blk {w : World} {v : Int} {ar : Option Addr} {cr : Nat} {WS : List RW} {k : Nat} {vf : Value} {E : List LE} {w1 w2 : World} {o : Obj} (h : LrS w v ar cr WS k vf E w1) (hg : (w1.alloc o).grownBy w2 vf.ownBlock) (b : Nat) (hb : b < w.heap.size + 3) : w2.heap[b]? = w1.heap[b]? := by
  have := h.lo
  rw [hg.block b (by simp; omega) (fun e => by have := (h.full.lt b e.symm).1; omega), Below.heap_alloc _ _ _ (by omega)]
theorem LrS.pre {w : World} {v : Int} {ar : Option Addr} {cr : Nat} {WS : List RW} {k : Nat} {vf : Value} {E : List LE} {w1 w2 : World} {o : Obj} (h : LrS w v ar cr WS k vf E w1) (hg : (w1.alloc o).grownBy w2 vf.ownBlock) : w2.cell? ⟨w.heap.size + 1 + 1, 2, none⟩ = some vf ∧ w2.frozen? ⟨w.heap.size + 1 + 1, 2, none⟩ = false := by
  have e := (h.blk hg (w.heap.size + 1 + 1) (by omega)).trans h.out
  exact ⟨lr_cell e 2, lr_frozen e 2⟩
theorem LrS.push {w : World} {v : Int} {ar : Option Addr} {cr : Nat} {WS : List RW} {k : Nat} {vf v' : Value} {E : List LE} {w1 w2 : World} {o : Obj} {x g c : Nat} {bx : Option Addr} {zs : List Int} {cx : Nat} (h : LrS w v ar cr WS k vf E w1)
    (hrow : w1.ownsRow (w.heap.size + 3) 5 1 (.slice (some ⟨g, 0, none⟩) (zs.length + 64) c) (zs.length + 64) (bv (zs ++ marks 0 64))) (hlt : k < WS.length) (hp : WS.getD k rw0 = (x, bx, zs, cx))
    (own2 : w2.ownsRow (w.heap.size + 3) 35 1 v' (k + 1) (fullV E ++ [.slice (some ⟨g, 0, none⟩) (zs.length + 64) c])) (hg : (w1.alloc o).grownBy w2 vf.ownBlock) :
    LrS w v ar cr WS (k + 1) v' (E ++ [(x, zs, g, c)]) (w2.setCell ⟨w.heap.size + 1 + 1, 2, none⟩ v') := by
  have hlo := h.lo
  have hs := hg.size
  simp at hs
  have hB : Below w.heap.size w w2 := h.bel.trans ⟨hg.os, hg.tape, hg.output, by omega, fun b hb => h.blk hg b (by omega)⟩
  have hx : ∀ b, b ≠ w.heap.size + 1 + 1 → (w2.setCell ⟨w.heap.size + 1 + 1, 2, none⟩ v').heap[b]? = w2.heap[b]? := fun b hb => Below.heap_setCell _ _ _ _ hb
  have hrows : RowsE (w.heap.size + 3) (E ++ [(x, zs, g, c)]) w1 := fun e he => by
    rcases List.mem_append.1 he with he | he
    · exact h.rows e he
    · simp at he; subst he; exact hrow
  refine ⟨by simp [h.len], ?_, (hx _ (by omega)).trans ((h.blk hg _ (by omega)).trans h.rbox), (hx _ (by omega)).trans ((h.blk hg _ (by omega)).trans h.res), ?_, ?_, ?_, hB.setCell (by show w.heap.size ≤ w.heap.size + 1 + 1; omega) _, by simp [World.setCell]; omega⟩
  · rw [take_snocR WS k hlt, List.map_append, List.map_append, h.same, hp]; rfl
  · have e := (h.blk hg (w.heap.size + 1 + 1) (by omega)).trans h.out
    simp [World.setCell, Array.getElem?_modify, e]
  · exact ((hrows.below ((Below.refl _ _).alloc (Nat.le_refl _) o)).grown (h.full.alloc o) (by decide) hg).set _ _ _ (by omega)
  · have : fullV (E ++ [(x, zs, g, c)]) = fullV E ++ [.slice (some ⟨g, 0, none⟩) (zs.length + 64) c] := by simp [fullV]
    rw [this]
    exact ownsRow_setCell_below own2 (by show w.heap.size + 1 + 1 < w.heap.size + 3; omega) _
theorem lrs_b {w : World} {v : Int} {ar : Option Addr} {cr : Nat} {WS : List RW} {k : Nat} {vf : Value} {E : List LE} {wr w' : World} {A B : Prop} (h : Hid (LrS w v ar cr WS k vf E wr)) (hb : Hid (A ∧ B ∧ Below wr.heap.size wr w')) : Hid (LrS w v ar cr WS k vf E w') := h.out.below hb.out.2.2
theorem row_b {wr w' : World} {B e s n : Nat} {v : Value} {xs : List Value} {A C : Prop} (h : Hid (wr.ownsRow B e s v n xs)) (hb : Hid (A ∧ C ∧ Below wr.heap.size wr w')) : Hid (w'.ownsRow B e s v n xs) := own_below h.out hb.out.2.2
theorem lrs_o {w : World} {v : Int} {ar : Option Addr} {cr : Nat} {WS : List RW} {k : Nat} {vf : Value} {E : List LE} {wr : World} (h : Hid (LrS w v ar cr WS k vf E wr)) : wr.cell? ⟨w.heap.size + 1 + 1, 2, none⟩ = some vf ∧ wr.frozen? ⟨w.heap.size + 1 + 1, 2, none⟩ = false ∧ w.heap.size + 1 + 1 < wr.heap.size ∧ wr.cell? ⟨w.heap.size, 0, none⟩ = some (.int .u32 v) ∧ wr.cell? ⟨w.heap.size, 1, none⟩ = some (.slice ar WS.length cr) := h.out.o2
theorem one_newsv {W : World} {x : Value} {t : TypeId} : ∀ j u, [x][j]? = some u → (W.alloc (.cells #[x] t)).cell? ((⟨W.heap.size, 0, none⟩ : Addr).add j) = some u := by
  intro j u hj
  match j, hj with
  | 0, hj => simp at hj; subst hj; simp [Addr.add]
theorem two_newsv {W : World} {x y : Value} {t : TypeId} : ∀ j u, [x, y][j]? = some u → (W.alloc (.cells #[x, y] t)).cell? ((⟨W.heap.size, 0, none⟩ : Addr).add j) = some u := by
  intro j u hj
  match j, hj with
  | 0, hj => simp at hj; subst hj; simp [Addr.add]
  | 1, hj => simp at hj; subst hj; simp [Addr.add]
theorem two1s {n : Int} : ∀ u ∈ [Value.int .u32 n, Value.slice none 0 0], u.oneCell' = true := by
  intro u hu; simp at hu; rcases hu with rfl | rfl <;> rfl
theorem own_form0L {w : World} {B e sz : Nat} {v : Value} {n : Nat} {xs : List Value} (h : w.ownsRow B e sz v n xs) : ∃ a c, v = .slice a n c := by
  rcases h.2 with ⟨rfl, rfl⟩ | ⟨g, cap, cur, rfl, _⟩
  · exact ⟨_, _, rfl⟩
  · exact ⟨_, _, rfl⟩
theorem one1s {a : Option Addr} {n c : Nat} : ∀ u ∈ [Value.slice a n c], u.oneCell' = true := by
  intro u hu; simp at hu; subst hu; rfl
theorem own_monoL {w : World} {B B' e sz : Nat} {v : Value} {n : Nat} {xs : List Value} (h : w.ownsRow B e sz v n xs) (hle : B' ≤ B) : w.ownsRow B' e sz v n xs :=
  ⟨h.1, h.2.imp id (fun ⟨g, cap, cur, a, b, c⟩ => ⟨g, cap, cur, a, Nat.le_trans hle b, c⟩)⟩
theorem LrS.pushW {w : World} {v : Int} {ar : Option Addr} {cr : Nat} {WS : List RW} {k : Nat} {vf vw v' : Value} {E : List LE} {w1 w2 : World} {o : Obj} {n : Nat} {xs : List Value} (h : LrS w v ar cr WS k vf E w1) (hw : w1.ownsRow (w.heap.size + 3) 38 2 vw n xs) (hg : (w1.alloc o).grownBy w2 vf.ownBlock) : (w2.setCell ⟨w.heap.size + 1 + 1, 2, none⟩ v').ownsRow (w.heap.size + 3) 38 2 vw n xs :=
  ownsRow_setCell_below ((hw.alloc o).kept hg (lr_type (by decide) (hw.alloc o) (h.full.alloc o))) (by show w.heap.size + 1 + 1 < w.heap.size + 3; omega) _
theorem LrS.grown {w : World} {v : Int} {ar : Option Addr} {cr : Nat} {WS : List RW} {k : Nat} {vf vw : Value} {E : List LE} {w1 w2 : World} {n : Nat} {xs : List Value} (h : LrS w v ar cr WS k vf E w1) (hw : w1.ownsRow (w.heap.size + 3) 38 2 vw n xs) (hg : w1.grownBy w2 vw.ownBlock) : LrS w v ar cr WS k vf E w2 := by
  have hlo := h.lo
  have hs := hg.size
  have hblk : ∀ b, b < w.heap.size + 3 → w2.heap[b]? = w1.heap[b]? := fun b hb => hg.block b (by omega) (fun e => by have := (hw.lt b e.symm).1; omega)
  refine ⟨h.len, h.same, (hblk _ (by omega)).trans h.rbox, (hblk _ (by omega)).trans h.res, (hblk _ (by omega)).trans h.out, h.rows.grown hw (by decide) hg, h.full.kept hg (lr_type (by decide) h.full hw), ?_, by omega⟩
  exact h.bel.trans ⟨hg.os, hg.tape, hg.output, by have := h.bel.size; omega, fun b hb => hblk b (by omega)⟩
theorem LrS.drew {w : World} {v : Int} {ar : Option Addr} {cr : Nat} {WS : List RW} {k : Nat} {vf : Value} {E : List LE} {wr : World} (h : LrS w v ar cr WS k vf E wr) (n : Nat) : LrS w v ar cr WS k vf E (wr.drewN n) := h.below (below_drewN (Below.refl _ _) n)
theorem appendW_wp {w : World} {o : Oper} {a : Act} {K : Act → World → Prop} {Q : Exit → Act → World → Prop} (s x : Operand) (ho : o.op = .call { callee := .builtin .append, args := #[s, x], argTypes := #[26, 26] })
    (base g : Nat) (lv : Value) (m : Nat) (xs : List Value) (x0 : Nat) (sv : Value) (hsv : sv.oneCell' = true) (hs : a.eval s = lv) (hx : a.eval x = .slice (some ⟨g, 0, none⟩) 1 1) (hown : w.ownsRow base 38 2 lv m xs) (hobj : w.heap[g]? = some (Obj.cells #[.int .u32 (x0 : Int), sv] 38)) (hm : m * 32 ≤ 140737488351232 + 256) (hbase : base ≤ w.heap.size)
    (h : ∀ v' w', w'.ownsRow base 38 2 v' (m + 1) (xs ++ [.int .u32 (x0 : Int), sv]) → w.grownBy w' lv.ownBlock → K (a.put o.dst v') w') : Oper.wp Try.prog o a w K Q := by
  obtain ⟨i0, hi, hz0, hz1, hz2⟩ := info_parts Try.infoWr
  refine wp_append_own w s x _ ho base 38 i0 (.agg #[.int .u32 0, .slice none 0 0]) 2 32 Try.underlying26 hi hz0 hz1 hz2 rfl (by decide) lv m xs hs hown ⟨g, 0, none⟩ 1 1 [.int .u32 (x0 : Int), sv] hx rfl ?_ ?_ (by unfold maxLen; omega) (by omega) hbase ?_
  · intro j u hj
    have hl : j < 2 := by simpa using (List.getElem?_eq_some_iff.1 hj).1
    match j, hl, hj with
    | 0, _, hj => simpa [Addr.add, World.cell?, hobj] using hj
    | 1, _, hj => simpa [Addr.add, World.cell?, hobj] using hj
  · intro u hu
    simp at hu
    rcases hu with rfl | rfl
    · rfl
    · exact hsv
  · intro v' w' h1 h2 _
    exact h v' w' h1 h2
/-- what stands when a reply was lent -/
structure LrP (w : World) (WS : List RW) (E : List LE) (gw cw : Nat) (vf : Value) (w' : World) : Prop where
  room : WS.length + 4 ≤ cw
  same : E.map (fun e => (e.1, e.2.1)) = WS.map (fun p => (p.1, p.2.2.1))
  rows : RowsE (w.heap.size + 3) E w'
  full : w'.ownsRow (w.heap.size + 3) 35 1 vf WS.length (fullV E)
  wri : w'.ownsRow (w.heap.size + 3) 38 2 (.slice (some ⟨gw, 0, none⟩) (WS.length + 4) cw) (WS.length + 4) (wrV E ++ mkV 4)
  bel : Below w.heap.size w w'
theorem LrP.set {w : World} {WS : List RW} {E : List LE} {gw cw : Nat} {vf : Value} {w' : World} (h : LrP w WS E gw cw vf w') (b i : Nat) (u : Value) (h1 : w.heap.size ≤ b) (h2 : b < w.heap.size + 3) : LrP w WS E gw cw vf (w'.setCell ⟨b, i, none⟩ u) :=
  ⟨h.room, h.same, h.rows.set b i u h2, ownsRow_setCell_below h.full h2 u, ownsRow_setCell_below h.wri h2 u, h.bel.setCell h1 u⟩
theorem LrP.below {w : World} {WS : List RW} {E : List LE} {gw cw : Nat} {vf : Value} {w1 w2 : World} (h : LrP w WS E gw cw vf w1) (hb : Below w1.heap.size w1 w2) : LrP w WS E gw cw vf w2 :=
  ⟨h.room, h.same, h.rows.below hb, own_below h.full hb, own_below h.wri hb, h.bel.trans (hb.mono h.bel.size)⟩
theorem LrS.done {w : World} {v : Int} {ar : Option Addr} {cr : Nat} {WS : List RW} {vf : Value} {E : List LE} {wr : World} {gw cw : Nat} (h : LrS w v ar cr WS WS.length vf E wr) (hw : wr.ownsRow (w.heap.size + 3) 38 2 (.slice (some ⟨gw, 0, none⟩) (WS.length + 4) cw) (WS.length + 4) (wrV E ++ mkV 4)) (hc : WS.length + 4 ≤ cw) (a b : Value) :
    LrP w WS E gw cw vf ((wr.setCell ⟨w.heap.size + 1 + 1, 0, none⟩ a).setCell ⟨w.heap.size + 1 + 1, 1, none⟩ b).drew ∧ ((wr.setCell ⟨w.heap.size + 1 + 1, 0, none⟩ a).setCell ⟨w.heap.size + 1 + 1, 1, none⟩ b).drew.heap[w.heap.size + 1 + 1]? = some (.cells #[a, b, vf] 31) ∧ ((wr.setCell ⟨w.heap.size + 1 + 1, 0, none⟩ a).setCell ⟨w.heap.size + 1 + 1, 1, none⟩ b).drew.heap[w.heap.size + 1]? = some (.cells #[.int .u32 0, .slice none 0 0, .slice none 0 0] 31) := by
  have hP : LrP w WS E gw cw vf wr := ⟨hc, by simpa using h.same, h.rows, h.full, hw, h.bel⟩
  refine ⟨((hP.set _ _ a (by omega) (by omega)).set _ _ b (by omega) (by omega)).below (below_drewN (Below.refl _ _) 1), ?_, ?_⟩
  · have e := h.out
    simp [World.setCell, World.drew, Array.getElem?_modify, e]
  · have e := h.res
    simp [World.setCell, World.drew, Array.getElem?_modify, e]
theorem fin_cells {w : World} {b : Nat} {a c d x y z : Value} {t : TypeId} (h : w.heap[b]? = some (.cells #[x, y, z] t)) : (((w.setCell ⟨b, 0, none⟩ a).setCell ⟨b, 1, none⟩ c).setCell ⟨b, 2, none⟩ d).heap[b]? = some (.cells #[a, c, d] t) := by
  simp [World.setCell, Array.getElem?_modify, h]
set_option maxHeartbeats 4000000 in
theorem lentreply_any (v : Int) (ar : Option Addr) (cr : Nat) (WS : List RW) (w : World) (hn : WS.length * 32 ≤ 140737488351232) (hr : RsR w ar WS w.heap.size) :
    Calls Try.prog 8 #[.agg #[.int .u32 v, .slice ar WS.length cr]] w fun e w' => ∃ E gw cw vf, e = .returned (.agg #[.int .u32 v, .slice (some ⟨gw, 0, none⟩) WS.length cw, vf]) ∧ LrP w WS E gw cw vf w' := by
  obtain ⟨i0, hi, hz0, hz1, hz2⟩ := info_parts Try.infoBs
  obtain ⟨j0, hj, hy0, hy1, hy2⟩ := info_parts Try.infoWr
  obtain ⟨t1, t2, t3, t4, t5⟩ := three_new w (.cells #[.int .u32 v, .slice ar WS.length cr] 28) (.cells #[.int .u32 0, .slice none 0 0, .slice none 0 0] 31) (.cells #[.int .u32 0, .slice none 0 0, .slice none 0 0] 31)
  go_enter Try.func8, Try.ntmps8
  go_wp2
  go_loopw [4, 5] (fun vw i wr => ∃ (k : Nat) (vf : Value) (E : List LE), i = .int .i64 k ∧ k ≤ WS.length ∧ LrS w v ar cr WS k vf E wr ∧ wr.ownsRow (w.heap.size + 3) 38 2 vw k (wrV E)) (fun _ i _ => WS.length - (intOf i).toNat)
  case atStart => exact ⟨0, .slice none 0 0, [], rfl, Nat.zero_le _, ⟨rfl, rfl, t1, t2, t3, (fun e he => by simp at he), World.ownsRow_nil _ _ _ _, t5, by omega⟩, World.ownsRow_nil _ _ _ _⟩
  case round =>
    obtain ⟨k, vf, E, rfl, hk, hS, hwr⟩ := hrel
    clear t1 t2 t3 t4 t5
    have d0 := lr_cell hS.rbox 0
    have d1 := lr_cell hS.rbox 1
    have hlo := hS.lo
    by_cases hlt : k < WS.length
    · have hd : decide ((k : Int) < WS.length) = true := by simp; omega
      have hrW := hr.below hS.bel
      obtain ⟨bo, off, rfl, hbl, hc⟩ := hrW.1 (by omega)
      obtain ⟨c1, c2⟩ := hc k hlt
      obtain ⟨g1, g2, g3⟩ := hrW.2 k hlt
      have hLb := lent_any (WS.getD k rw0).2.1 (WS.getD k rw0).2.2.2 (WS.getD k rw0).2.2.1 wr g2 (g1.mono (by omega))
      have HL : Hid (Calls Try.prog 12 #[.slice (WS.getD k rw0).2.1 (WS.getD k rw0).2.2.1.length (WS.getD k rw0).2.2.2] wr fun e w' => ∃ g c, e = .returned (.slice (some ⟨g, 0, none⟩) ((WS.getD k rw0).2.2.1.length + 64) c) ∧ Hid ((WS.getD k rw0).2.2.1.length + 64 ≤ c ∧ w'.ownsRow wr.heap.size 5 1 (.slice (some ⟨g, 0, none⟩) ((WS.getD k rw0).2.2.1.length + 64) c) ((WS.getD k rw0).2.2.1.length + 64) (bv ((WS.getD k rw0).2.2.1 ++ marks 0 64)) ∧ Below wr.heap.size wr w')) :=
        hLb.mono fun e w' ⟨u, he, ho, hb⟩ => by
          obtain ⟨g, c, rfl, hgc⟩ := own_form ho (by omega)
          exact ⟨g, c, he, hgc, ho, hb⟩
      clear hLb hc hrW
      have HS := fjhid hS
      have HW := fjhid hwr
      clear hS hwr
      obtain ⟨x, bx, zs, cx, hpe⟩ : ∃ x bx zs cx, WS.getD k rw0 = (x, bx, zs, cx) := ⟨_, _, _, _, rfl⟩
      have HPE := fjhid hpe
      rw [hpe] at c1 c2 g1 g2 g3 HL
      clear hpe
      simp only at c1 c2 g1 g2 g3 HL
      go_wp2_with (first
        | (go_at_call 12; with_reducible refine HL.out.mono ?_; rintro e w1 ⟨g, c, rfl, HR⟩; replace HS := lrs_b HS HR; replace HW := row_b HW HR; have HO := lrs_o HS; obtain ⟨q1, q2, q3, q4, q5⟩ := HO)
        | (at_builtin; (refine wpList_append_own _ rfl _ _ 29 rfl (w.heap.size + 3) 35 i0 (.slice none 0 0) 1 24 Try.underlying29 hi hz0 hz1 hz2 rfl (by decide) _ _ _ rfl (HS.out.full.alloc _) ⟨_, 0, none⟩ 1 1 [.slice (some ⟨g, 0, none⟩) (zs.length + 64) c] rfl rfl one_newsv one1s (by unfold maxLen; omega) (by omega) (by simp; omega) ?_; intro v' w2 own2 hg2 _; obtain ⟨gf, cf, rfl, hcf⟩ := own_form own2 (by omega); obtain ⟨p1, p2⟩ := HS.out.pre hg2; have HS2 := fjhid (HS.out.push (own_monoL HR.out.2.1 hlo) hlt HPE.out own2 hg2); have HW2 := fjhid (HS.out.pushW (v' := .slice (some ⟨gf, 0, none⟩) (k + 1) cf) HW.out hg2); clear own2 hg2)))
      generalize w2.setCell ⟨w.heap.size + 1 + 1, 2, none⟩ (.slice (some ⟨gf, 0, none⟩) (k + 1) cf) = wS at HS2 HW2 ⊢
      have hlo3 : w.heap.size + 3 ≤ wS.heap.size := HS2.out.lo
      have hcc : zs.length + 64 ≤ c := HR.out.1
      clear p1 p2 HS HW HL q1 q2 q3 q4 q5 c1 c2 d0 d1 hlo HR
      have HV : Hid (∀ V, Below (w.heap.size + 3) wS V → V.cell? ⟨w.heap.size, 1, none⟩ = some (.slice (some ⟨bo, off, none⟩) WS.length cr) ∧ V.cell? ⟨bo, off + k * 2, none⟩ = some (.int .u32 (x : Nat)) ∧ V.cell? ⟨bo, off + k * 2 + 1, none⟩ = some (.slice bx zs.length cx)) := fjhid (fun V hV => by
        have e1 := (hV.block w.heap.size (by omega)).trans HS2.out.rbox
        have hR := hr.below (HS2.out.bel.trans (hV.mono (by omega)))
        obtain ⟨b', off', e, hb', hc⟩ := hR.1 (by omega)
        cases e
        obtain ⟨c1', c2'⟩ := hc k hlt
        rw [HPE.out] at c1' c2'
        exact ⟨lr_cell e1 1, c1', c2'⟩)
      have HOW : Hid ((wS.alloc (Obj.cells #[.int .u32 (x : Int), .slice (some ⟨g, 0, none⟩) zs.length c] 38)).drew.ownsRow (w.heap.size + 3) 38 2 u4 k (wrV E)) := fjhid (HW2.out.alloc _).drew
      have hm16 : k * 32 ≤ 140737488351232 + 256 := by omega
      have hbs : w.heap.size + 3 ≤ (wS.alloc (Obj.cells #[.int .u32 (x : Int), .slice (some ⟨g, 0, none⟩) zs.length c] 38)).drew.heap.size := Nat.le_trans hlo3 (below_drewN ((Below.refl (w.heap.size + 3) wS).alloc hlo3 _) 1).size
      have hz1 : decide (zs.length ≤ c) = true := by simp; omega
      have hz2 : (zs.length : Int) ≤ c := by omega
      go_region_held3 (fun V => V.cell? ⟨w.heap.size, 1, none⟩ = some (.slice (some ⟨bo, off, none⟩) WS.length cr) ∧ V.cell? ⟨bo, off + k * 2, none⟩ = some (.int .u32 (x : Nat)) ∧ V.cell? ⟨bo, off + k * 2 + 1, none⟩ = some (.slice bx zs.length cx)) (first | exact HV.out _ (Below.refl _ _) | exact HV.out _ (below_drewN (Below.refl _ _) 1) | exact HV.out _ (below_drewN ((Below.refl _ _).alloc hlo3 _) 1) | exact HV.out _ ((below_drewN ((Below.refl _ _).alloc hlo3 _) 1).trans R2)) ((rw [if_pos (by rfl)]; (refine appendW_wp _ _ rfl (w.heap.size + 3) _ u4 k (wrV E) x (.slice (some ⟨g, 0, none⟩) zs.length c) rfl rfl rfl HOW.out (MapKept.heap_alloc wS _).1 hm16 hbs ?_; intro v3 w3 own3 hg3; have R2 := (Below.refl (w.heap.size + 3) _).grown hg3 hbs (fun q e => (HOW.out.lt q e).1))))
      have HR : Hid (LrS w v (some ⟨bo, off, none⟩) cr WS (k + 1) (.slice (some ⟨gf, 0, none⟩) (k + 1) cf) (E ++ [(x, zs, g, c)]) w3 ∧ w3.ownsRow (w.heap.size + 3) 38 2 v3 (k + 1) (wrV (E ++ [(x, zs, g, c)]))) := fjhid ⟨((HS2.out.below ((Below.refl _ _).alloc (Nat.le_refl _) _)).drew 1).grown HOW.out hg3, by rw [wrV_append]; exact own3⟩
      clear HOW own3 hg3 R2 HV HS2 HW2
      go_wp2
      go_roundw
      case rel => exact ⟨k + 1, _, _, by go_num, by omega, HR.out.1, HR.out.2⟩
      case measure => simp [intOf]; omega
    · have hd : decide ((k : Int) < WS.length) = false := by simp; omega
      have hke : k = WS.length := by omega
      subst hke
      have HS := fjhid hS
      have HW := fjhid hwr
      clear hS hwr
      have hB4 := HS.out.bel.size
      go_wp2
      clear d0 d1 hlo
      go_loopw [4, 7] (fun vw i wr' => ∃ q : Nat, i = .int .i64 q ∧ q ≤ 4 ∧ LrS w v ar cr WS WS.length vf E wr' ∧ wr'.ownsRow (w.heap.size + 3) 38 2 vw (WS.length + q) (wrV E ++ mkV q)) (fun _ i _ => 4 - (intOf i).toNat)
      case atStart => exact ⟨0, rfl, Nat.zero_le _, HS.out, by simpa [mkV] using HW.out⟩
      case round =>
        obtain ⟨q, rfl, hq, hS, hwr⟩ := hrel
        clear HS HW
        have hlo := hS.lo
        have HS := fjhid hS
        have HW := fjhid hwr
        clear hS hwr
        by_cases hlt : q < 4
        · have hd4 : decide ((q : Int) < 4) = true := by simp; omega
          have hwq : IntKind.u32.wrap (77 + (q : Int)) = 77 + (q : Int) := by rw [IntKind.wrap_u32]; omega
          go_wp2_with (at_builtin; (refine wpList_append_own _ rfl _ _ 26 rfl (w.heap.size + 3) 38 j0 (.agg #[.int .u32 0, .slice none 0 0]) 2 32 Try.underlying26 hj hy0 hy1 hy2 rfl (by decide) _ _ _ rfl (HW.out.alloc _) ⟨_, 0, none⟩ 1 1 [.int .u32 (77 + (q : Int)), .slice none 0 0] rfl rfl two_newsv two1s (by unfold maxLen; omega) (by omega) (by simp; omega) ?_; intro v3 w3 own3 hg3 _; have HR := fjhid (And.intro ((HS.out.below ((Below.refl _ _).alloc (Nat.le_refl _) _)).grown (HW.out.alloc _) hg3) own3); clear own3 hg3))
          go_roundw
          case rel => exact ⟨q + 1, by go_num, by omega, HR.out.1, by have h := HR.out.2; rw [List.append_assoc] at h; simpa [mkV, Nat.add_assoc] using h⟩
          case measure => simp [intOf]; omega
        · have hd4 : decide ((q : Int) < 4) = false := by simp; omega
          have hq4 : q = 4 := by omega
          subst hq4
          obtain ⟨gw, cw, rfl, hcw⟩ := own_form HW.out (by omega)
          have d0 := lr_cell HS.out.rbox 0
          have d1 := lr_cell HS.out.rbox 1
          have o0 := lr_cell HS.out.out 0
          have o1 := lr_cell HS.out.out 1
          have f0 := lr_frozen HS.out.out 0
          have f1 := lr_frozen HS.out.out 1
          have hz1 : decide (WS.length ≤ cw) = true := by simp; omega
          have hz2 : (WS.length : Int) ≤ cw := by omega
          go_wp2_with fail
          go_region
          have HD := fjhid (HS.out.done HW.out hcw (.int .u32 v) (.slice (some ⟨gw, 0, none⟩) WS.length cw))
          obtain ⟨a0, c0, hvf⟩ := own_form0L HS.out.full
          subst hvf
          clear d0 d1 o0 o1 f0 f1 HS HW
          generalize ((wr.setCell ⟨w.heap.size + 1 + 1, 0, none⟩ (.int .u32 v)).setCell ⟨w.heap.size + 1 + 1, 1, none⟩ (.slice (some ⟨gw, 0, none⟩) WS.length cw)).drew = wZ at HD ⊢
          have z0 := lr_cell HD.out.2.1 0
          have z1 := lr_cell HD.out.2.1 1
          have z2 := lr_cell HD.out.2.1 2
          have r0 := lr_cell HD.out.2.2 0
          have r1 := lr_cell HD.out.2.2 1
          have r2 := lr_cell HD.out.2.2 2
          have f0 := lr_frozen HD.out.2.2 0
          have f1 := lr_frozen HD.out.2.2 1
          have f2 := lr_frozen HD.out.2.2 2
          go_wp2
          have HP := ((HD.out.1.set (w.heap.size + 1) 0 (.int .u32 v) (by omega) (by omega)).set (w.heap.size + 1) 1 (.slice (some ⟨gw, 0, none⟩) WS.length cw) (by omega) (by omega)).set (w.heap.size + 1) 2 (.slice a0 WS.length c0) (by omega) (by omega)
          have hF := fin_cells (a := .int .u32 v) (c := .slice (some ⟨gw, 0, none⟩) WS.length cw) (d := .slice a0 WS.length c0) HD.out.2.2
          generalize ((wZ.setCell ⟨w.heap.size + 1, 0, none⟩ (.int .u32 v)).setCell ⟨w.heap.size + 1, 1, none⟩ (.slice (some ⟨gw, 0, none⟩) WS.length cw)).setCell ⟨w.heap.size + 1, 2, none⟩ (.slice a0 WS.length c0) = wF at HP hF ⊢
          have u0 := lr_cell hF 0
          have u1 := lr_cell hF 1
          have u2 := lr_cell hF 2
          exact bodyPost_ret (v := .agg #[.int .u32 v, .slice (some ⟨gw, 0, none⟩) WS.length cw, .slice a0 WS.length c0]) (by simp [results, Try.results8, go_sem, u0, u1, u2]) rfl ⟨E, gw, cw, _, rfl, HP⟩
end Go.Proofs.Ythfncfmfcbhpfaa
