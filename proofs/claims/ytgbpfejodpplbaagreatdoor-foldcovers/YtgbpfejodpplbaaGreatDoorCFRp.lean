import Derived.Test.YtgbpfejodpplbaaGreatDoorCFR8
import Derived.Laws.Bits64b
import Derived.Laws.MakeOwn
namespace Go.Proofs.YtgbpfejodpplbaaGreatDoor
open Go.RowKit Go.WideShapes Go.Shelf
set_option maxRecDepth 100000
set_option linter.unusedSimpArgs false
attribute [local go_sem] Oper.semAt_some

theorem Tryz.infoI : (Tryz.prog.info? 3).map (·.size) = some 1 := by kernel_rfl
/-- -1 so many times, then 0 -/
def rpL (n m : Nat) : List Value := List.replicate m (.int .i64 (-1)) ++ List.replicate (n - m) (.int .i64 0)
theorem rpL_len {n m : Nat} (h : m ≤ n) : (rpL n m).length = n := by simp [rpL]; omega
theorem rpL_copy {n m c : Nat} (h : m + c ≤ n) : (rpL n m).take m ++ List.replicate c (Value.int .i64 (-1)) ++ (rpL n m).drop (m + c) = rpL n (m + c) := by
  unfold rpL
  rw [List.take_left' (by simp), List.drop_append, List.drop_replicate, List.drop_replicate, List.replicate_append_replicate, List.length_replicate]
  rw [show m - (m + c) = 0 by omega, show n - m - (m + c - m) = n - (m + c) by omega]
  simp
abbrev rpOps (ps : String) : Array Oper := #[{ dst := some 38, op := Op.move (Operand.tmp 8), type := 3, pos := ps, after := #[], guard := none }, { dst := some 39, op := Op.move (Operand.tmp 7), type := 52, pos := ps, after := #[], guard := none }, { dst := some 40, op := Op.move (Operand.tmp 8), type := 3, pos := ps, after := #[], guard := none }, { dst := some 41, op := Op.slice 52 (Operand.tmp 39) (some (Operand.tmp 40)) none none, type := 52, pos := ps, after := #[{ on := 1, ground := Ground.data }, { on := 2, ground := Ground.data }], guard := none }, { dst := some 42, op := Op.move (Operand.tmp 7), type := 52, pos := ps, after := #[], guard := none }, { dst := some 43, op := Op.move (Operand.tmp 8), type := 3, pos := ps, after := #[], guard := none }, { dst := some 44, op := Op.slice 52 (Operand.tmp 42) none (some (Operand.tmp 43)) none, type := 52, pos := ps, after := #[{ on := 4, ground := Ground.data }, { on := 5, ground := Ground.data }], guard := none }, { dst := some 45, op := Op.call { callee := Callee.builtin Builtin.copy, args := #[Operand.tmp 41, Operand.tmp 44], argTypes := #[52, 52] }, type := 3, pos := ps, after := #[{ on := 3, ground := Ground.data }, { on := 6, ground := Ground.data }], guard := none }, { dst := some 46, op := Op.binOp BinOp.add 3 (Operand.tmp 38) (Operand.tmp 45) 3, type := 3, pos := ps, after := #[{ on := 0, ground := Ground.data }, { on := 7, ground := Ground.data }], guard := none }, { dst := some 8, op := Op.assign (Operand.tmp 46), type := 3, pos := ps, after := #[{ on := 8, ground := Ground.data }, { on := 7, ground := Ground.chain }, { on := 0, ground := Ground.phase }, { on := 1, ground := Ground.phase }, { on := 2, ground := Ground.phase }, { on := 3, ground := Ground.phase }, { on := 4, ground := Ground.phase }, { on := 5, ground := Ground.phase }, { on := 6, ground := Ground.phase }, { on := 7, ground := Ground.phase }, { on := 8, ground := Ground.phase }], guard := none }]
set_option maxHeartbeats 4000000 in
theorem rp_lay {ps : String} {nn : Nat} {Q : Exit → Act → World → Prop} {w : World} {ds : List Deferred} {t0 t1 t2 t3 t4 t5 t6 t9 t10 t11 t12 t13 t14 t15 t16 t17 t18 t19 t20 t21 t22 t23 t24 t25 t26 t27 t28 t29 t30 t31 t32 t33 t34 t35 t36 t37 t38 t39 t40 t41 t42 t43 t44 t45 t46 t47 : Value} (g n m c : Nat) (hn : n ≤ 16384) (hm0 : 0 < m) (hm : m < n) (hc : c = min m (n - m)) (ho : w.heap[g]? = some (.cells (rpL n m).toArray 3 (0, 0)))
    (hQ : ∀ c (a : Act) d v w, Q (.panic c) (a.put d v) w → Q (.panic c) a w)
    (hK : Q .normal { tmps := (t0 :: t1 :: t2 :: t3 :: t4 :: t5 :: t6 :: .slice (some ⟨g, 0, none⟩) n n :: .int .i64 ((m : Int) + c) :: t9 :: t10 :: t11 :: t12 :: t13 :: t14 :: t15 :: t16 :: t17 :: t18 :: t19 :: t20 :: t21 :: t22 :: t23 :: t24 :: t25 :: t26 :: t27 :: t28 :: t29 :: t30 :: t31 :: t32 :: t33 :: t34 :: t35 :: t36 :: t37 :: .int .i64 (m : Int) :: .slice (some ⟨g, 0, none⟩) n n :: .int .i64 (m : Int) :: .slice (some ⟨g, m, none⟩) (n - m) (n - m) :: .slice (some ⟨g, 0, none⟩) n n :: .int .i64 (m : Int) :: .slice (some ⟨g, 0, none⟩) m n :: .int .i64 (c : Int) :: .int .i64 ((m : Int) + c) :: t47 :: []).toArray, defers := ds } (w.drew.setRow g (rpL n (m + c)).toArray)) :
    (Code.region 9 (rpOps ps) true).wpIn Fence.wide nn Tryz.prog Q { tmps := (t0 :: t1 :: t2 :: t3 :: t4 :: t5 :: t6 :: .slice (some ⟨g, 0, none⟩) n n :: .int .i64 (m : Int) :: t9 :: t10 :: t11 :: t12 :: t13 :: t14 :: t15 :: t16 :: t17 :: t18 :: t19 :: t20 :: t21 :: t22 :: t23 :: t24 :: t25 :: t26 :: t27 :: t28 :: t29 :: t30 :: t31 :: t32 :: t33 :: t34 :: t35 :: t36 :: t37 :: t38 :: t39 :: t40 :: t41 :: t42 :: t43 :: t44 :: t45 :: t46 :: t47 :: []).toArray, defers := ds } w := by
  have hmI : (m : Int) < (n : Int) := Int.ofNat_lt.2 hm
  have hcl : m + c ≤ n ∧ c ≤ m := by omega
  have HC := hidS hc
  clear hc
  have h1 : (0 : Int) ≤ (m : Int) := by omega
  have h2 : (m : Int) ≤ (n : Int) := by omega
  have h3 : ¬ m = n := by omega
  have h4 : ¬ n = m := by omega
  have hs : IntKind.i64.wrap ((m : Int) + (c : Int)) = (m : Int) + c := by rw [IntKind.wrap_i64]; omega
  have hs2 : wrap64 ((m : Int) + (c : Int)) = (m : Int) + c := by unfold wrap64; omega
  refine region_G (fun _ => True) 9 (fun i o h => List.all_eq_true.1 (show (rpOps ps).toList.all noDefer = true by kernel_rfl) o (List.mem_of_getElem? (by simpa using h))) (by first | assumption | kernel_rfl) ?_
  refine wpAnyG_take (i := 0) (oi := { dst := some 38, op := Op.move (Operand.tmp 8), type := 3, pos := ps, after := #[], guard := none }) (v := ?_) rfl rfl (by kernel_rfl) (by kernel_rfl) (by kernel_rfl) (fun _ _ _ h => hQ _ _ _ _ _ h) (by kernel_rfl) ⟨Or.inl ⟨by rfl, ?_⟩, fun _ => rfl⟩ trivial ?_
  rotate_left
  · intro w' hS'; go_simp; try with_reducible rfl
  simp only [Act.put, List.setIfInBounds_toArray, List.set_cons_zero, List.set_cons_succ]
  refine wpAnyG_take (i := 1) (oi := { dst := some 39, op := Op.move (Operand.tmp 7), type := 52, pos := ps, after := #[], guard := none }) (v := ?_) rfl rfl (by kernel_rfl) (by kernel_rfl) (by kernel_rfl) (fun _ _ _ h => hQ _ _ _ _ _ h) (by kernel_rfl) ⟨Or.inl ⟨by rfl, ?_⟩, fun _ => rfl⟩ trivial ?_
  rotate_left
  · intro w' hS'; go_simp; try with_reducible rfl
  simp only [Act.put, List.setIfInBounds_toArray, List.set_cons_zero, List.set_cons_succ]
  refine wpAnyG_take (i := 2) (oi := { dst := some 40, op := Op.move (Operand.tmp 8), type := 3, pos := ps, after := #[], guard := none }) (v := ?_) rfl rfl (by kernel_rfl) (by kernel_rfl) (by kernel_rfl) (fun _ _ _ h => hQ _ _ _ _ _ h) (by kernel_rfl) ⟨Or.inl ⟨by rfl, ?_⟩, fun _ => rfl⟩ trivial ?_
  rotate_left
  · intro w' hS'; go_simp; try with_reducible rfl
  simp only [Act.put, List.setIfInBounds_toArray, List.set_cons_zero, List.set_cons_succ]
  refine wpAnyG_take (i := 3) (oi := { dst := some 41, op := Op.slice 52 (Operand.tmp 39) (some (Operand.tmp 40)) none none, type := 52, pos := ps, after := #[{ on := 1, ground := Ground.data }, { on := 2, ground := Ground.data }], guard := none }) (v := ?_) rfl rfl (by kernel_rfl) (by kernel_rfl) (by kernel_rfl) (fun _ _ _ h => hQ _ _ _ _ _ h) (by kernel_rfl) ⟨Or.inl ⟨by rfl, ?_⟩, fun _ => rfl⟩ trivial ?_
  rotate_left
  · intro w' hS'; go_simp; try with_reducible rfl
  simp only [Act.put, List.setIfInBounds_toArray, List.set_cons_zero, List.set_cons_succ]
  refine wpAnyG_take (i := 4) (oi := { dst := some 42, op := Op.move (Operand.tmp 7), type := 52, pos := ps, after := #[], guard := none }) (v := ?_) rfl rfl (by kernel_rfl) (by kernel_rfl) (by kernel_rfl) (fun _ _ _ h => hQ _ _ _ _ _ h) (by kernel_rfl) ⟨Or.inl ⟨by rfl, ?_⟩, fun _ => rfl⟩ trivial ?_
  rotate_left
  · intro w' hS'; go_simp; try with_reducible rfl
  simp only [Act.put, List.setIfInBounds_toArray, List.set_cons_zero, List.set_cons_succ]
  refine wpAnyG_take (i := 5) (oi := { dst := some 43, op := Op.move (Operand.tmp 8), type := 3, pos := ps, after := #[], guard := none }) (v := ?_) rfl rfl (by kernel_rfl) (by kernel_rfl) (by kernel_rfl) (fun _ _ _ h => hQ _ _ _ _ _ h) (by kernel_rfl) ⟨Or.inl ⟨by rfl, ?_⟩, fun _ => rfl⟩ trivial ?_
  rotate_left
  · intro w' hS'; go_simp; try with_reducible rfl
  simp only [Act.put, List.setIfInBounds_toArray, List.set_cons_zero, List.set_cons_succ]
  refine wpAnyG_take (i := 6) (oi := { dst := some 44, op := Op.slice 52 (Operand.tmp 42) none (some (Operand.tmp 43)) none, type := 52, pos := ps, after := #[{ on := 4, ground := Ground.data }, { on := 5, ground := Ground.data }], guard := none }) (v := ?_) rfl rfl (by kernel_rfl) (by kernel_rfl) (by kernel_rfl) (fun _ _ _ h => hQ _ _ _ _ _ h) (by kernel_rfl) ⟨Or.inl ⟨by rfl, ?_⟩, fun _ => rfl⟩ trivial ?_
  rotate_left
  · intro w' hS'; go_simp; try with_reducible rfl
  simp only [Act.put, List.setIfInBounds_toArray, List.set_cons_zero, List.set_cons_succ]
  refine wpAnyG_one (i := 7) (o := { dst := some 45, op := Op.call { callee := Callee.builtin Builtin.copy, args := #[Operand.tmp 41, Operand.tmp 44], argTypes := #[52, 52] }, type := 3, pos := ps, after := #[{ on := 3, ground := Ground.data }, { on := 6, ground := Ground.data }], guard := none }) (by kernel_rfl) rfl (by rfl) ?_
  have hr := run_copy_row (P := Tryz.prog) w.drew 52 52 3 3 g m (n - m) (n - m) ⟨g, 0, none⟩ m n (rpL n m).toArray 3 (List.replicate c (.int .i64 (-1))) Tryz.underlying52 Tryz.infoI ho (by rw [List.length_replicate]; exact HC.out) ?src (by have h5 := rpL_len (n := n) (m := m) (by omega); simp only [List.size_toArray, List.length_replicate, h5]; omega) (by intro v hv; rw [(List.mem_replicate.1 hv).2]; rfl)
  case src =>
    intro j v hj
    have hjc : j < c := by simpa using (List.getElem?_eq_some_iff.1 hj).1
    have hv : v = .int .i64 (-1) := by
      rw [List.getElem?_replicate, if_pos hjc] at hj
      exact (Option.some.inj hj).symm
    subst hv
    rw [add_plain, Nat.zero_add]
    refine (obj_cell ho j).trans ?_
    simp only [List.getElem?_toArray]
    unfold rpL
    rw [List.getElem?_append_left (by simp; omega), List.getElem?_replicate, if_pos (by omega)]
  simp only [List.length_replicate, List.toList_toArray] at hr
  rw [rpL_copy (by omega)] at hr
  refine opG (v := .int .i64 (c : Int)) (w' := w.drew.setRow g (rpL n (m + c)).toArray) rfl rfl ?_ ⟨fun _ => trivial, ?_⟩
  · unfold execOp
    simp only [resolve, invoke, builtin, Sem.run_bind, Sem.run_pure, Result.andThen_ok, List.map_toArray, List.map_cons, List.map_nil]
    show ((Builtin.copy_ #[52, 52] 3 #[.slice (some ⟨g, m, none⟩) (n - m) (n - m), .slice (some ⟨g, 0, none⟩) m n]).run Tryz.prog w.drew).andThen _ = _
    rw [hr]
    rfl
  simp only [Act.put, List.setIfInBounds_toArray, List.set_cons_zero, List.set_cons_succ]
  refine wpAnyG_take (i := 8) (oi := { dst := some 46, op := Op.binOp BinOp.add 3 (Operand.tmp 38) (Operand.tmp 45) 3, type := 3, pos := ps, after := #[{ on := 0, ground := Ground.data }, { on := 7, ground := Ground.data }], guard := none }) (v := .int .i64 ((m : Int) + c)) rfl rfl (by kernel_rfl) (by kernel_rfl) (by kernel_rfl) (fun _ _ _ h => hQ _ _ _ _ _ h) (by kernel_rfl) ⟨Or.inl ⟨by rfl, ?_⟩, fun _ => rfl⟩ trivial ?_
  · intro w' hS'; go_simp; first | (with_reducible rfl) | (rw [hs2]; done) | (simp only [hs2, hs]; done) | trace_state
  simp only [Act.put, List.setIfInBounds_toArray, List.set_cons_zero, List.set_cons_succ]
  refine wpAnyG_one (i := 9) (o := { dst := some 8, op := Op.assign (Operand.tmp 46), type := 3, pos := ps, after := #[{ on := 8, ground := Ground.data }, { on := 7, ground := Ground.chain }, { on := 0, ground := Ground.phase }, { on := 1, ground := Ground.phase }, { on := 2, ground := Ground.phase }, { on := 3, ground := Ground.phase }, { on := 4, ground := Ground.phase }, { on := 5, ground := Ground.phase }, { on := 6, ground := Ground.phase }, { on := 7, ground := Ground.phase }, { on := 8, ground := Ground.phase }], guard := none }) (by kernel_rfl) rfl (by rfl) ?_
  refine opG (v := .int .i64 ((m : Int) + c)) (w' := w.drew.setRow g (rpL n (m + c)).toArray) rfl rfl ?_ ⟨fun q => absurd rfl q, ?_⟩
  · go_simp
  simp only [Act.put, List.setIfInBounds_toArray, List.set_cons_zero, List.set_cons_succ]
  exact wpAnyG_done (by kernel_rfl) hK _
end Go.Proofs.YtgbpfejodpplbaaGreatDoor
namespace Go.Proofs.YtgbpfejodpplbaaGreatDoor
open Go.RowKit Go.WideShapes Go.Shelf
set_option maxRecDepth 100000

theorem mask_small (a : Nat) (ha : a < 4294967296) : bits .and .u64 (a : Int) 4294967295 = (a : Int) := by
  have h := bits_and_u64_nat a 4294967295 (by omega) (by omega)
  have e : a &&& 4294967295 = a % 4294967296 := Nat.and_two_pow_sub_one_eq_mod a 32
  rw [e, Nat.mod_eq_of_lt ha] at h
  exact h
theorem mul64_one (n : Nat) (w : World) (hn : n ≤ 16384) : Calls Tryz.prog 100 #[.int .u64 1, .int .u64 n] w fun e w' => e = .returned (.tuple #[.int .u64 0, .int .u64 n]) ∧ w' = w := by
  have m1 : bits .and .u64 1 4294967295 = 1 := mask_small 1 (by omega)
  have m2 := mask_small n (by omega)
  have m3 : bits .and .u64 0 4294967295 = 0 := mask_small 0 (by omega)
  have d1 : (n : Int) / 4294967296 = 0 := by omega
  go_enter Tryz.func100, Tryz.ntmps100
  go_wp2
  go_ret2
  exact ⟨rfl, rfl⟩
theorem mul_one' (n : Nat) (w : World) (hn : n ≤ 16384) : Calls Tryz.prog 80 #[.int .u64 1, .int .u64 n] w fun e w' => e = .returned (.tuple #[.int .u64 0, .int .u64 n]) ∧ w' = w := by
  have HM := mul64_one n w hn
  go_enter Tryz.func80, Tryz.ntmps80
  go_wp2_with (go_at_call 100; with_reducible refine HM.mono ?_; rintro e w2 ⟨rfl, hw2⟩; subst hw2)
  go_ret2
  exact ⟨rfl, rfl⟩
theorem Tryz.infoN : (Tryz.prog.info? 3).map (fun i => (i.zero, i.size, i.bytes)) = some (some (.int .i64 0), 1, 8) := by kernel_rfl
theorem made_ints (n : Nat) : madeCells (Value.int .i64 0).cells (n * 1) = (rpL n 0).toArray := by
  rw [Nat.mul_one]
  apply Array.ext
  · simp [madeCells, rpL]
  · intro i h1 h2
    simp only [madeCells, rpL, Array.getElem_map, Array.getElem_range]
    have : ((Value.int .i64 0).cells) = #[.int .i64 0] := rfl
    rw [this]
    simp [Nat.mod_one]
set_option maxHeartbeats 2000000 in
theorem repeat_any (q n : Nat) (w : World) (h0 : 0 < n) (hn : n ≤ 16384) (ho : w.heap[q]? = some (.cells #[.int .i64 (-1)] 3 (0, 0))) :
    Calls Tryz.prog 53 #[.slice (some ⟨q, 0, none⟩) 1 1, .int .i64 n] w fun e w' => e = .returned (.slice (some ⟨w.heap.size, 0, none⟩) n n) ∧ w'.heap[w.heap.size]? = some (.cells (rpL n n).toArray 3 (0, 0)) ∧ Below w.heap.size w w' := by
  have HM := mul_one' n w hn
  have hnI : ¬ (n : Int) < 0 := by omega
  have hn2 : ¬ (9223372036854775807 : Int) < (n : Int) := by omega
  obtain ⟨i0, hi, hz0, hz1, hz2⟩ := info_parts Tryz.infoN
  have hmk : (Instr.makeSlice 52 (.int .i64 (n : Int)) (.int .i64 (n : Int))).run Tryz.prog w = .ok (.slice (some ⟨w.heap.size, 0, none⟩) n n) (w.alloc (.cells (rpL n 0).toArray 3)) := by
    have := run_make (P := Tryz.prog) w 52 3 i0 (.int .i64 0) Tryz.underlying52 hi hz0 .i64 .i64 (n : Int) (n : Int) (by omega) (Int.le_refl _) (by rw [hz2]; omega) (by omega)
    rw [hz1, Int.toNat_natCast, made_ints] at this
    exact this
  have hcp : (Builtin.copy_ #[52, 52] 3 #[.slice (some ⟨w.heap.size, 0, none⟩) n n, .slice (some ⟨q, 0, none⟩) 1 1]).run Tryz.prog (w.alloc (.cells (rpL n 0).toArray 3)) = .ok (.int .i64 1) (w.alloc (.cells (rpL n 1).toArray 3)) := by
    have hq : q < w.heap.size := (Array.getElem?_eq_some_iff.1 ho).1
    have hr := run_copy_row (P := Tryz.prog) (w.alloc (.cells (rpL n 0).toArray 3)) 52 52 3 3 w.heap.size 0 n n ⟨q, 0, none⟩ 1 1 (rpL n 0).toArray 3 [.int .i64 (-1)] Tryz.underlying52 Tryz.infoI (heap_alloc_new w _) (by show 1 = min 1 n; omega) ?src (by have h5 := rpL_len (n := n) (m := 0) (by omega); simp only [List.size_toArray, h5]; simp; omega) (by intro v hv; simp at hv; subst hv; rfl)
    case src =>
      intro j v hj
      match j, hj with
      | 0, hj =>
        simp at hj
        subst hj
        rw [add_plain]
        exact (obj_cell ((Below.heap_alloc w _ q hq).trans ho) 0).trans rfl
      | j + 1, hj => simp at hj
    rw [World.setRow_alloc_new] at hr
    have e1 := rpL_copy (n := n) (m := 0) (c := 1) (by omega)
    simp only [List.replicate_one, Nat.zero_add] at e1
    simp only [List.length_singleton, Nat.zero_add] at hr
    rw [e1] at hr
    exact hr
  have HO : Hid ((w.alloc (.cells (rpL n 1).toArray 3)).heap[w.heap.size]? = some (.cells (rpL n 1).toArray 3 (0, 0))) := hidS (heap_alloc_new w _)
  go_enter Tryz.func53, Tryz.ntmps53
  go_wp2_with (go_at_call 80; with_reducible refine HM.mono ?_; rintro e w2 ⟨rfl, hw2⟩; have hw2 := hw2.symm; subst hw2)
  clear hmk hcp
  go_loopw [8] (fun u wr => ∃ m : Nat, u = .int .i64 m ∧ 1 ≤ m ∧ m ≤ n ∧ wr.heap[w.heap.size]? = some (.cells (rpL n m).toArray 3 (0, 0)) ∧ Below w.heap.size w wr)
    (fun u _ => n - (intOf u).toNat)
  case atStart => exact ⟨1, rfl, Nat.le_refl _, h0, HO.out, belP (Below.refl _ _)⟩
  case round =>
    obtain ⟨m, rfl, hm1, hm2, hrow, hb⟩ := hrel
    by_cases hlt : m < n
    · have hlI : (m : Int) < (n : Int) := by omega
      have HR := hidS (And.intro hrow hb)
      clear hrow hb
      go_wp2
      obtain ⟨c, hc⟩ : ∃ c, min m (n - m) = c := ⟨_, rfl⟩
      refine (wpIn_wide (n := 0)).1 ?_
      refine rp_lay w.heap.size n m c hn (by omega) hlt hc.symm HR.out.1 ?_ ?_
      · rintro c a (_ | d) v w h <;> exact h
      · have hcc : 0 < c ∧ m + c ≤ n := by omega
        clear hc
        go_wp2
        go_roundw
        case rel => exact ⟨m + c, by go_num, by omega, by omega, setRow_heap _ _ _ _ _ _ HR.out.1, below_setRow (below_drewN HR.out.2 1) (Nat.le_refl _) _⟩
        case measure => simp [intOf]; omega
    · have hlI : ¬ (m : Int) < (n : Int) := by omega
      have hmn : m = n := by omega
      have HR : Hid (wr.heap[w.heap.size]? = some (.cells (rpL n n).toArray 3 (0, 0)) ∧ Below w.heap.size w wr) := hidS ⟨by rw [hmn] at hrow; exact hrow, hb⟩
      clear hrow hb hmn
      go_wp2
      go_ret
      exact ⟨rfl, HR.out.1, HR.out.2⟩
end Go.Proofs.YtgbpfejodpplbaaGreatDoor
