import Derived.Test.YtonmoidalkcmoaaCIRef
import Derived.Deep.MidRow
import Derived.ChangeKeysEq
import Derived.Deep.AppendLies
namespace Go.Proofs.Ytonmoidalkcmoaa
set_option maxHeartbeats 4000000
open Go.RowKit Go.WideShapes
set_option maxRecDepth 100000
theorem undA : ∃ n, Try.prog.underlying 39 = some (.array n 5) ∧ n = 256 := by
  have h : (match Try.prog.underlying 39 with | some (.array n e) => n == 256 && e == 5 | _ => false) = true := by kernel_rfl
  split at h
  · rename_i n e hu
    simp only [Bool.and_eq_true, beq_iff_eq] at h
    obtain ⟨h1, h2⟩ := h
    exact ⟨n, by rw [hu, h2], h1⟩
  · cases h
theorem sizeA : (Try.prog.info? 39).map (·.size) = some 256 := by kernel_rfl
theorem cell8 : Try.prog.cellsOf 5 = 1 := by kernel_rfl
theorem plain8 : Try.prog.plainKey 5 = true := by kernel_rfl
theorem und8 : Try.prog.underlying 5 = some (.int .u8) := by kernel_rfl
/-- an array is what it is -/
theorem eq_items {D : List Nat} (d : Nat) (w : World) : ∀ (is : List Nat), (∀ i ∈ is, i < D.length) → (Op.eqItems (d + 1) 5 (Try.prog.cellsOf 5) (btV D).toArray (btV D).toArray is).run Try.prog w = .ok true w
  | [], _ => by simp [Op.eqItems]
  | i :: is, h => by
    have hi := h i (by simp)
    have hp : (part 5 (btV D).toArray (i * Try.prog.cellsOf 5)).run Try.prog w = .ok (.int .u8 ((D.getD i 0 : Nat) : Int)) w := run_part_plain w plain8 (by rw [cell8, Nat.mul_one, List.getElem?_toArray, btV_get hi])
    have he := run_equalIn_int (P := Try.prog) w d 5 .u8 .u8 ((D.getD i 0 : Nat) : Int) ((D.getD i 0 : Nat) : Int) und8
    simp only [Op.eqItems, Sem.run_bind, hp, he, Result.andThen_ok, beq_self_eq_true, Bool.not_true, Bool.false_eq_true, if_false]
    exact eq_items d w is (fun j hj => h j (by simp [hj]))
theorem eq_self {D : List Nat} (hD : D.length = 256) (w : World) : (Op.equalIn 10000 39 (.agg (btV D).toArray) (.agg (btV D).toArray)).run Try.prog w = .ok true w := by
  obtain ⟨n, hu, rfl⟩ := undA
  obtain ⟨i, hi⟩ : ∃ i, Try.prog.info? 5 = some i := by
    have h : (Try.prog.info? 5).isSome = true := by kernel_rfl
    exact Option.isSome_iff_exists.1 h
  rw [run_equalIn_array w 9999 _ _ hu hi]
  exact eq_items 9998 w _ (fun j hj => by rw [hD]; exact List.mem_range.1 hj)
theorem loadA {W : World} {pm : Nat} {D : List Nat} (hD : D.length = 256) (h : ∀ k, k < 256 → W.cell? ⟨pm, 2 + k, none⟩ = some (.int .u8 ((D.getD k 0 : Nat) : Int))) :
    (Instr.loadAt 39 (.pointer (some ⟨pm, 2, none⟩))).run Try.prog W = .ok (.agg (btV D).toArray) W := by
  obtain ⟨n, hu, rfl⟩ := undA
  refine run_loadAt_mid W pm 2 _ (btV D) _ (fun j v hv => ?_) hu rfl (by rw [sizeA, btV_len, hD])
  have hj := (List.getElem?_eq_some_iff.1 hv).1
  rw [btV_len] at hj
  rw [btV_get hj] at hv
  cases hv
  exact h j (by omega)
def RdWd (w : World) (ao : Option Addr) (l : List Nat) : Prop := 0 < l.length → ∃ b off, ao = some ⟨b, off, none⟩ ∧ ∀ j, j < l.length → w.cell? ⟨b, off + j, none⟩ = some (.int .u32 ((l.getD j 0 : Nat) : Int))
theorem sw_true (ao bo : Option Addr) (ca cb : Nat) (xs : List Nat) (w : World) (hn : xs.length ≤ 35184372088832) (h1 : RdWd w ao xs) (h2 : RdWd w bo xs) :
    Calls Try.prog 8 #[.slice ao xs.length ca, .slice bo xs.length cb] w fun e w' => e = .returned (.bool true) ∧ ∃ m, w' = w.drewN m := by
  have H1 := dhid h1
  have H2 := dhid h2
  clear h1 h2
  go_enter Try.func8, Try.ntmps8
  go_wp2
  go_loopw [5] (fun i wr => ∃ k m : Nat, k ≤ xs.length ∧ i = .int .i64 k ∧ wr = w.drewN m)
    (fun i _ => xs.length - (intOf i).toNat)
  case atStart => exact ⟨0, 0, Nat.zero_le _, rfl, rfl⟩
  case round =>
    obtain ⟨k, m, hk, rfl, hw2⟩ := hrel
    by_cases hlt : k < xs.length
    · obtain ⟨b1, o1, rfl, hc1⟩ := H1.out (by omega)
      obtain ⟨b2, o2, rfl, hc2⟩ := H2.out (by omega)
      have hck : wr.cell? ⟨b1, o1 + k, none⟩ = some (.int .u32 ((xs.getD k 0 : Nat) : Int)) := by rw [hw2]; exact hc1 k hlt
      have hck2 : wr.cell? ⟨b2, o2 + k, none⟩ = some (.int .u32 ((xs.getD k 0 : Nat) : Int)) := by rw [hw2]; exact hc2 k hlt
      have HW2 := dhid hw2
      clear hw2 hc1 hc2 H1 H2
      have hlt' : (k : Int) < (xs.length : Int) := by omega
      generalize xs.getD k 0 = c at hck hck2
      go_wp2
      go_quiet (fail)
      go_wp2
      refine ⟨⟨k + 1, _, by omega, rfl, by rw [HW2.out, World.drewN_drewN]⟩, ?_⟩
      simp only [intOf]
      omega
    · have hlt' : ¬ (k : Int) < (xs.length : Int) := by omega
      have HW2 := dhid hw2
      clear hw2 H1 H2
      go_wp2
      go_ret
      exact ⟨rfl, m, HW2.out⟩
/-- an operation that reads, in a quiet region, by its run -/
theorem quiet_run {P : Program} {ops : Array Oper} {C : World → Prop} {Q : Act → Prop} {o : Oper} {rest : List Oper} {a : Act} (v : Value) (hw : Region.wanted o (yielded ops a.tmps) = true)
    (h : ∀ w, C w → (execOp a.eval o).run P w = .ok (.value v) w) (hn : wpQuiet P ops C Q rest (a.put o.dst v)) : wpQuiet P ops C Q (o :: rest) a := by
  unfold wpQuiet
  rw [if_pos hw]
  refine ⟨v, fun w hc => ?_, hn⟩
  unfold Oper.quietAt
  rw [h w hc]
  exact ⟨rfl, rfl⟩
theorem exec_load {P : Program} {o : Oper} {a : Act} {w : World} {v : Value} (ty : TypeId) (x : Operand) (ho : o.op = .load ty x) (h : (Instr.loadAt ty (a.eval x)).run P w = .ok v w) : (execOp a.eval o).run P w = .ok (.value v) w := by
  unfold execOp
  simp only [ho, Sem.run_bind, h, Result.andThen_ok, Sem.run_pure]
theorem guardA : Try.prog.eqGuardType Try.prog.depth 39 = false := by kernel_rfl
theorem exec_eqlA {o : Oper} {a : Act} {w : World} {D : List Nat} (hD : D.length = 256) (x y : Operand) (t : TypeId) (ho : o.op = .binOp .eql 39 x y t) (hx : a.eval x = .agg (btV D).toArray) (hy : a.eval y = .agg (btV D).toArray) : (execOp a.eval o).run Try.prog w = .ok (.value (.bool true)) w := by
  unfold execOp
  simp only [ho, hx, hy, Sem.run_bind, run_eqGuard_agg w .eql _ x y _ _ guardA, Result.andThen_ok, run_eql_struct, eq_self hD w, Sem.run_pure]
theorem exec_neqA {o : Oper} {a : Act} {w : World} {D : List Nat} (hD : D.length = 256) (x y : Operand) (t : TypeId) (ho : o.op = .binOp .neq 39 x y t) (hx : a.eval x = .agg (btV D).toArray) (hy : a.eval y = .agg (btV D).toArray) : (execOp a.eval o).run Try.prog w = .ok (.value (.bool false)) w := by
  unfold execOp
  simp only [ho, hx, hy, Sem.run_bind, run_eqGuard_agg w .neq _ x y _ _ guardA, Result.andThen_ok, run_neq_struct, eq_self hD w, Sem.run_pure, Bool.not_true]
theorem PlO.rd {W : World} {M : Col → Pc} {x pm sp : Nat} {m : Pm} (h : Hid (PlO W M x pm sp m)) : ∃ go cap, W.cell? ⟨pm, 1, none⟩ = some (.slice go m.ops.length cap) ∧ RdWd W go m.ops := by
  obtain ⟨hS, hd, go, cap, full, h0, h1, h2, h3⟩ := h.out
  refine ⟨go, cap, stt_cell hS h0 1 _ rfl, fun hp => ?_⟩
  have hrow := stt_row hS h1
  obtain ⟨g, rfl⟩ : ∃ g, go = some ⟨g, 0, none⟩ := by
    rcases hrow.2 with ⟨_, hz⟩ | ⟨g, c, cur, e1, _⟩
    · omega
    · simp only [Value.slice.injEq] at e1
      exact ⟨g, e1.1⟩
  refine ⟨g, 0, rfl, fun j hj => ?_⟩
  have hj2 : j < full.length := by omega
  rw [Nat.zero_add, hrow.cellAt j (by omega)]
  have he : m.ops.getD j 0 = full.getD j 0 := by
    rw [List.getD_eq_getElem?_getD, ← h3, List.getElem?_take_of_lt hj, ← List.getD_eq_getElem?_getD]
  rw [he]
  simp [dv, List.getD_eq_getElem?_getD, hj2]
theorem same_any {W : World} {M : Col → Pc} {p1 p2 sp : Nat} {m : Pm} (h1 : Hid (PlO W M 1 p1 sp m)) (h2 : Hid (PlO W M 2 p2 sp m)) (hl : m.ops.length ≤ 35184372088832) :
    Calls Try.prog 11 #[.pointer (some ⟨p1, 0, none⟩), .pointer (some ⟨p2, 0, none⟩)] W fun e w' => e = .returned (.bool true) ∧ ∃ k, w' = W.drewN k := by
  have a1 := fun n => PlO.cbd (PlO.drewN h1 n)
  have a2 := fun n => PlO.cbd (PlO.drewN h2 n)
  have b1 := fun n => PlO.cpc (PlO.drewN h1 n)
  have b2 := fun n => PlO.cpc (PlO.drewN h2 n)
  have d1 := fun n => loadA (PlO.len h1) (fun k hk => PlO.cdat (PlO.drewN h1 n) k hk)
  have d2 := fun n => loadA (PlO.len h2) (fun k hk => PlO.cdat (PlO.drewN h2 n) k hk)
  have de := fun w => eq_self (PlO.len h1) w
  obtain ⟨g1, c1, s1, r1⟩ := PlO.rd h1
  obtain ⟨g2, c2, s2, r2⟩ := PlO.rd h2
  have HS := dhid (fun n => sw_true g1 g2 c1 c2 m.ops (W.drewN n) hl r1 r2)
  have hlen := PlO.len h1
  clear h1 h2 r1 r2 hl
  obtain ⟨mo, md, mp, mb⟩ := m
  simp only at *
  go_enter Try.func11, Try.ntmps11
  cases mb
  · go_wp2
    have D1 := dhid d1
    have D2 := dhid d2
    have DE := dhid de
    clear d1 d2 de
    refine wp_region_quiet_lit (by kernel_rfl) (by kernel_rfl) ?_
    repeat (quiet_step (fail))
    refine quiet_run (.agg (btV md).toArray) rfl (fun w hc => by obtain ⟨n, rfl⟩ := hc; exact exec_load _ _ rfl (D1.out n)) ?_
    go_simp
    repeat (quiet_step (fail))
    refine quiet_run (.agg (btV md).toArray) rfl (fun w hc => by obtain ⟨n, rfl⟩ := hc; exact exec_load _ _ rfl (D2.out n)) ?_
    go_simp
    refine quiet_run (.bool true) rfl (fun w hc => exec_eqlA hlen _ _ _ rfl rfl rfl) ?_
    go_simp
    repeat (quiet_step (first | (go_at_call 8; exact Calls.quiet_of (HS.out _))))
    refine wpQuiet_nil ?_
    intro nq
    go_wp2
    go_ret
    exact ⟨rfl, nq, rfl⟩
  · go_wp2
    go_quiet (fail)
    go_wp2
    go_ret
    exact ⟨rfl, nq, rfl⟩
theorem wpList_run {P : Program} {ops : Array Oper} {rest : List Oper} {o : Oper} {a : Act} {w w' : World} {Q : Exit → Act → World → Prop} {v : Value} (hg : o.guard = none) (h : (execOp a.eval o).run P w = .ok (.value v) w') (hn : wpList P ops Q rest (a.put o.dst v) w') : wpList P ops Q (o :: rest) a w :=
  wpList_plain hg fun K hK => by
    unfold Oper.wp
    rw [h]
    exact hK _ _ hn
theorem build_run (x y : Int) (w : World) : (Instr.build 41 #[(0, .int .u32 x), (3, .int .u32 y)]).run Try.prog w = .ok (.agg ((.int .u32 x :: .slice none 0 0 :: (List.replicate 256 (.int .u8 0) ++ [.int .u32 y, .bool false])).toArray)) w := by kernel_rfl
theorem exec_build {o : Oper} {a : Act} {w : World} {x y : Int} {cs : Array Value} (hC : (Value.int .u32 x :: .slice none 0 0 :: (List.replicate 256 (.int .u8 0) ++ [.int .u32 y, .bool false])).toArray = cs) (p q : Operand) (ho : o.op = .build 41 #[(0, p), (3, q)]) (hx : a.eval p = .int .u32 x) (hy : a.eval q = .int .u32 y) : (execOp a.eval o).run Try.prog w = .ok (.value (.agg cs)) w := by
  subst hC
  unfold execOp
  simp only [ho, hx, hy, List.map_toArray, List.map_cons, List.map_nil, Sem.run_bind, build_run, Result.andThen_ok, Sem.run_pure]
theorem box_run (x y : Int) (w : World) : (Instr.box 41 (.agg ((.int .u32 x :: .slice none 0 0 :: (List.replicate 256 (.int .u8 0) ++ [.int .u32 y, .bool false])).toArray))).run Try.prog w = .ok (.pointer (some ⟨w.heap.size, 0, none⟩)) (w.alloc (.cells ((.int .u32 x :: .slice none 0 0 :: (List.replicate 256 (.int .u8 0) ++ [.int .u32 y, .bool false])).toArray) 41)) := by kernel_rfl
theorem exec_box {o : Oper} {a : Act} {w w1 : World} {x y : Int} {cs : Array Value} (hC : (Value.int .u32 x :: .slice none 0 0 :: (List.replicate 256 (.int .u8 0) ++ [.int .u32 y, .bool false])).toArray = cs) (hw : w.alloc (.cells cs 41) = w1) (p : Operand) (ho : o.op = .box 41 p) (hx : a.eval p = .agg cs) : (execOp a.eval o).run Try.prog w = .ok (.value (.pointer (some ⟨w.heap.size, 0, none⟩))) w1 := by
  subst hw hC
  unfold execOp
  simp only [ho, hx, Sem.run_bind, box_run, Result.andThen_ok, Sem.run_pure]
/-- the bytes that are laid in, so far -/
def flK (raw : List Nat) (k : Nat) : List Nat := (List.range 256).map fun i => if i < k then raw.getD i 0 else 0
theorem flK_len (raw : List Nat) (k : Nat) : (flK raw k).length = 256 := by simp [flK]
theorem flK_0 (raw : List Nat) : flK raw 0 = List.replicate 256 0 := by
  unfold flK
  rw [List.map_congr_left (g := fun _ => 0) (fun i _ => if_neg (Nat.not_lt_zero i)), List.map_const', List.length_range]
theorem flK_set (raw : List Nat) (k : Nat) : (flK raw k).set k (raw.getD k 0) = flK raw (k + 1) := by
  apply List.ext_getElem
  · simp [flK]
  · intro i h1 h2
    rw [List.getElem_set]
    simp only [flK, List.getElem_map, List.getElem_range]
    by_cases e : k = i
    · subst e
      rw [if_pos rfl, if_pos (by omega)]
    · rw [if_neg e]
      by_cases l : i < k
      · rw [if_pos l, if_pos (by omega)]
      · rw [if_neg l, if_neg (by omega)]
theorem flK_lt {raw : List Nat} (h : ∀ x ∈ raw, x < 256) (k j : Nat) : (flK raw k).getD j 0 < 256 := by
  rw [List.getD_eq_getElem?_getD]
  by_cases e : j < 256
  · simp only [flK, List.getElem?_map, List.getElem?_range e, Option.map_some, Option.getD_some]
    split
    · rw [List.getD_eq_getElem?_getD]
      by_cases e2 : j < raw.length
      · rw [List.getElem?_eq_getElem e2]; exact h _ (List.getElem_mem e2)
      · rw [List.getElem?_eq_none (by omega)]; decide
    · decide
  · rw [List.getElem?_eq_none (by rw [flK_len]; omega)]; decide
theorem pl_lit (sp at_ : Nat) : ((Value.int .u32 (sp : Int) :: .slice none 0 0 :: (List.replicate 256 (.int .u8 0) ++ [.int .u32 (at_ : Int), .bool false])).toArray) = plC sp (.slice none 0 0) (List.replicate 256 0) at_ false := by
  simp [plC, plL, btV]
theorem PlO.setd {W : World} {M : Col → Pc} {x pm sp : Nat} {m : Pm} (h : Hid (PlO W M x pm sp m)) (k v : Nat) (hk : k < 256) : ∃ M', Hid (PlO (W.setCell ⟨pm, 2 + k, none⟩ (.int .u8 (v : Int))) M' x pm sp ⟨m.ops, m.dat.set k v, m.pc, m.bad⟩) ∧ Kx x M M' := by
  obtain ⟨hS, hd, go, cap, full, h0, h1, h2, h3⟩ := h.out
  exact ⟨_, dhid ⟨stt_set hS h0 _ (plS_d _ _ _ _ _ (by rw [hd]; exact hk)), by rw [List.length_set]; exact hd, go, cap, full, upd_eq _ _ _, (upd_ne (by simp)).trans h1, h2, h3⟩, fun d d0 _ => upd_ne d0⟩
def RdBy (w : World) (ao : Option Addr) (l : List Nat) : Prop := 0 < l.length → ∃ b off, ao = some ⟨b, off, none⟩ ∧ ∀ j, j < l.length → w.cell? ⟨b, off + j, none⟩ = some (.int .u8 ((l.getD j 0 : Nat) : Int))
theorem machine_any {W w0 : World} {M : Col → Pc} (x : Nat) (hx : x ≠ 0) (hS : Hid (Stt W M)) (hO : M (0, 0) = outP w0) {g c : Nat} {ws : List Nat} (hW : M (0, 1) = rowO (some ⟨g, 0, none⟩) ws.length c ws) (hw : 0 < ws.length) (hl : ws.length ≤ 35184372088800) (ro : Option Addr) (rc : Nat) (raw : List Nat) (hr : ∀ W', Below w0.heap.size w0 W' → RdBy W' ro raw) (sp at_ : Nat) :
    Calls Try.prog 6 #[.slice (some ⟨g, 0, none⟩) ws.length c, .slice ro raw.length rc, .int .u32 (sp : Int), .int .u32 (at_ : Int)] W fun e w' => ∃ o M', e = .returned (.pointer (some ⟨o, 0, none⟩)) ∧ Hid (PlO w' M' x o sp ⟨ws, flK raw (min raw.length 256), at_, false⟩) ∧ Kx x M M' := by
  obtain ⟨i0, hi, hz0, hz1, hz2⟩ := info_parts Try.infoD
  obtain ⟨Z, hZ⟩ : ∃ Z, List.replicate 256 0 = Z := ⟨_, rfl⟩
  obtain ⟨cs, hcs⟩ : ∃ cs, plC sp (.slice none 0 0) Z at_ false = cs := ⟨_, rfl⟩
  have hlit := pl_lit sp at_
  rw [hZ, hcs] at hlit
  have HLIT := dhid hlit
  clear hlit
  obtain ⟨W1, hW1⟩ : ∃ W1, W.alloc (.cells cs 41) = W1 := ⟨_, rfl⟩
  have hb1 : Below W.heap.size W W1 := by rw [← hW1]; exact (Below.refl _ _).alloc (Nat.le_refl _) _
  have ho : W1.heap[W.heap.size]? = some (.cells cs 41) := by rw [← hW1]; exact heap_alloc_new _ _
  have S1 := dhid (stt_new (c := (x, 0)) (p := plP W.heap.size sp (.slice none 0 0) Z at_ false) hS.out hb1 ⟨by rw [hcs]; exact ho, Nat.le_refl _⟩)
  have c1 : W1.cell? ⟨W.heap.size, 1, none⟩ = some (.slice none 0 0) := (obj_cell ho 1).trans (by rw [← hcs]; rfl)
  have HD := dhid (show (dv ws).length = ws.length * 1 by simp [dv])
  have HE := dhid (show ∀ u ∈ dv ws, u.oneCell' = true from fun u hu => by
    simp only [dv, List.mem_map] at hu
    obtain ⟨z, _, rfl⟩ := hu
    rfl)
  have HC := dhid (show ∀ j u, (dv ws)[j]? = some u → W1.cell? ((⟨g, 0, none⟩ : Addr).add j) = some u from fun j u hj => by
    have hjl : j < ws.length := by
      have := (List.getElem?_eq_some_iff.1 hj).1
      simpa [dv] using this
    have := (stt_row (stt_below hS.out hb1) hW).cellAt j (by omega)
    rw [show (⟨g, 0, none⟩ : Addr).add j = ⟨g, j, none⟩ by unfold Addr.add; split <;> simp_all, this]
    rw [← hj, List.getElem?_eq_getElem (by simpa [dv] using hjl)])
  have HW1 := dhid hW1
  have HCS := dhid hcs
  have HZ := dhid hZ
  clear hb1 ho hW1 hcs hZ
  go_enter Try.func6, Try.ntmps6
  go_wp2_with (first
    | (refine wpList_run rfl (exec_build HLIT.out _ _ rfl rfl rfl) ?_)
    | (refine wpList_run rfl (exec_box HLIT.out HW1.out _ rfl rfl) ?_)
    | (at_builtin; refine wpList_append_lies _ rfl _ _ 24 rfl 0 23 i0 (.int .u32 0) 1 4 Try.underlying24 hi hz0 hz1 hz2 rfl (by decide) _ 0 [] rfl (World.ownsRow_nil _ _ _ _) ⟨g, 0, none⟩ ws.length c (dv ws) rfl HD.out HC.out HE.out hw ?d3 ?d4 ?d5 W1.heap.size rfl ?_))
  case d3 => unfold maxLen; omega
  case d4 => omega
  case d5 => exact Nat.zero_le _
  intro g2 c2 w2 own2 hgr hg2 _
  have R2 : Below W1.heap.size W1 w2 := (Below.refl _ _).grown hgr (Nat.le_refl _) (fun k e => by simp [Value.ownBlock] at e)
  have hge : g2 = W1.heap.size := by
    rcases hg2 with e | e
    · simp [Value.ownBlock] at e
    · exact e
  try simp only [Nat.zero_add, List.nil_append] at own2
  have S2 := dhid (stt_new (c := (x, 1)) (p := rowO (some ⟨g2, 0, none⟩) ws.length c2 ws) S1.out R2 ⟨own2, fun k e => by simp only [Value.ownBlock, Option.some.injEq] at e; omega⟩)
  have e0 : upd (upd M (x, 0) (plP W.heap.size sp (.slice none 0 0) Z at_ false)) (x, 1) (rowO (some ⟨g2, 0, none⟩) ws.length c2 ws) (x, 0) = plP W.heap.size sp (.slice none 0 0) Z at_ false := (upd_ne (by simp)).trans (upd_eq _ _ _)
  have d1 : w2.cell? ⟨W.heap.size, 1, none⟩ = some (.slice none 0 0) := stt_cell S2.out e0 1 _ rfl
  have z1 : w2.frozen? ⟨W.heap.size, 1, none⟩ = false := obj_frozen (stt_obj S2.out e0) 1
  have S3 := dhid (stt_set S2.out e0 (.slice (some ⟨g2, 0, none⟩) ws.length c2) (i := 1) (plS_1 _ _ _ _ _ _))
  have P3 : Hid (PlO (w2.setCell ⟨W.heap.size, 1, none⟩ (.slice (some ⟨g2, 0, none⟩) ws.length c2)) (upd (upd (upd M (x, 0) (plP W.heap.size sp (.slice none 0 0) Z at_ false)) (x, 1) (rowO (some ⟨g2, 0, none⟩) ws.length c2 ws)) (x, 0) (plP W.heap.size sp (.slice (some ⟨g2, 0, none⟩) ws.length c2) Z at_ false)) x W.heap.size sp ⟨ws, flK raw 0, at_, false⟩) :=
    dhid ⟨S3.out, flK_len _ _, some ⟨g2, 0, none⟩, c2, ws, by rw [flK_0, HZ.out]; exact upd_eq _ _ _, (upd_ne (by simp)).trans (upd_eq _ _ _), Nat.le_refl _, List.take_length⟩
  have K3 : Kx x M (upd (upd (upd M (x, 0) (plP W.heap.size sp (.slice none 0 0) Z at_ false)) (x, 1) (rowO (some ⟨g2, 0, none⟩) ws.length c2 ws)) (x, 0) (plP W.heap.size sp (.slice (some ⟨g2, 0, none⟩) ws.length c2) Z at_ false)) := fun d d0 d1 => by rw [upd_ne d0, upd_ne d1, upd_ne d0]
  generalize upd (upd (upd M (x, 0) (plP W.heap.size sp (.slice none 0 0) Z at_ false)) (x, 1) (rowO (some ⟨g2, 0, none⟩) ws.length c2 ws)) (x, 0) (plP W.heap.size sp (.slice (some ⟨g2, 0, none⟩) ws.length c2) Z at_ false) = M3 at P3 K3
  have HHR := dhid hr
  have HHO := dhid hO
  clear S1 S2 S3 e0 own2 hgr hg2 hge R2 c1 HC HD HE HLIT hr hS hW hO HW1 HCS HZ
  go_wp2
  go_loopw [10] (fun i wr => ∃ k : Nat, k ≤ min raw.length 256 ∧ i = .int .i64 k ∧ ∃ M4, Hid (PlO wr M4 x W.heap.size sp ⟨ws, flK raw k, at_, false⟩) ∧ Kx x M M4)
    (fun i _ => min raw.length 256 - (intOf i).toNat)
  case atStart => exact ⟨0, Nat.zero_le _, rfl, M3, P3, K3⟩
  case round =>
    obtain ⟨k, hk, rfl, M4, P4, K4⟩ := hrel
    clear P3 d1 z1
    by_cases hlt : k < min raw.length 256
    · have hb4 : Below w0.heap.size w0 wr := stt_out P4.out.1 ((K4 (0, 0) (by simp [Ne.symm hx]) (by simp)).trans HHO.out)
      obtain ⟨rb, rof, rfl, hc⟩ := HHR.out wr hb4 (by omega)
      have hck := hc k (by omega)
      have l1 : (k : Int) < (raw.length : Int) := by omega
      have l2 : (k : Int) < 256 := by omega
      have dk := PlO.cdat P4 k (by omega)
      have fk := PlO.frz P4 (2 + k)
      obtain ⟨M5, P5, K5⟩ := PlO.setd P4 k (raw.getD k 0) (by omega)
      have hfs := flK_set raw k
      simp only at P5 dk
      rw [hfs] at P5
      generalize raw.getD k 0 = v at *
      generalize (flK raw k).getD k 0 = u at *
      clear hc hb4 hfs P4
      go_wp2
      go_region
      go_wp2
      exact ⟨⟨k + 1, by omega, rfl, M5, PlO.drew P5, K4.trans K5⟩, by simp only [intOf]; omega⟩
    · have hke : k = min raw.length 256 := by omega
      have hz : ¬ ((k : Int) < (raw.length : Int) ∧ (k : Int) < 256) := by omega
      by_cases hr : k < raw.length
      · have l1 : (k : Int) < (raw.length : Int) := by omega
        have l2 : ¬ (k : Int) < 256 := by omega
        have HKE := dhid hke
        clear hke
        go_wp2
        go_ret
        exact ⟨_, rfl, M4, by rw [← HKE.out]; exact P4, K4⟩
      · have l1 : ¬ (k : Int) < (raw.length : Int) := by omega
        have HKE := dhid hke
        clear hke
        go_wp2
        go_ret
        exact ⟨_, rfl, M4, by rw [← HKE.out]; exact P4, K4⟩
end Go.Proofs.Ytonmoidalkcmoaa
