import Derived.Test.YtnplimdcfbgpeaaDoorMLap
import Derived.Lib.SliceRun
import Derived.Deep.AppendLies
namespace Go.Proofs.YtnplimdcfbgpeaaDoor
open Go.RowKit Go.WideShapes Go.Sort
set_option maxRecDepth 100000

theorem getD_memS {L : List (Nat × Nat)} {k : Nat} (h : k < L.length) : L.getD k (0, 0) ∈ L := by
  rw [List.getD_eq_getElem?_getD, List.getElem?_eq_getElem h]
  exact List.getElem_mem h
theorem ptakeS {α : Type} (d : α) (zs : List α) (k : Nat) (h : k < zs.length) : zs.take (k + 1) = zs.take k ++ [zs.getD k d] := by
  rw [List.take_add_one, List.getD_eq_getElem?_getD, List.getElem?_eq_getElem h]; rfl
theorem below_grow (w : World) (n : Nat) (os : Array Obj) : Below w.heap.size w (grow (w.drewN n) os) :=
  ⟨rfl, rfl, rfl, by simp [grow], fun b hb => by simp [grow, Array.getElem?_append, hb]⟩
set_option maxHeartbeats 1000000 in
/-- the first span without bytes -/
theorem idx_any (b off cap : Nat) (L : List (Nat × Nat)) (w : World) (hn : L.length ≤ 1048576) (hw : Wfs L) (hb : b < w.heap.size)
    (hc : ∀ j, j < L.length → w.cell? ⟨b, off + j * 2, none⟩ = some (.int .u32 (L.getD j (0, 0)).1) ∧ w.cell? ⟨b, off + j * 2 + 1, none⟩ = some (.int .u32 (L.getD j (0, 0)).2)) :
    Calls Tryd.prog 54 #[.slice (some ⟨b, off, none⟩) L.length cap, .func (.func 68) #[] #[]] w fun e w' =>
      (∃ i : Int, e = .returned (.int .i64 i) ∧ ((i = -1 ∧ ∀ p ∈ L, ¬ p.2 = 0) ∨ ∃ k : Nat, i = k ∧ k < L.length ∧ (∀ p ∈ L.take k, ¬ p.2 = 0) ∧ (L.getD k (0, 0)).2 = 0)) ∧ Below w.heap.size w w' := by
  have HC := hidS hc
  have HW := hidS hw
  clear hc hw
  go_enter Tryd.func54, Tryd.ntmps54
  go_wp2_with fail
  go_loopw [8] (fun i wr => ∃ k : Nat, k ≤ L.length ∧ i = .int .i64 k ∧ (∀ p ∈ L.take k, ¬ p.2 = 0) ∧ Below w.heap.size w wr)
    (fun i _ => L.length - (intOf i).toNat)
  case atStart => exact ⟨0, Nat.zero_le _, rfl, by simp, Below.refl _ _⟩
  case round =>
    obtain ⟨k, hk, rfl, hall, hbw⟩ := hrel
    have HA := hidS hall
    clear hall
    by_cases hlt : k < L.length
    · have hltI : (k : Int) < (L.length : Int) := by omega
      have x0 := (hbw.cell (p := ⟨b, off + k * 2, none⟩) hb).trans (HC.out k hlt).1
      have x1 := (hbw.cell (p := ⟨b, off + k * 2 + 1, none⟩) hb).trans (HC.out k hlt).2
      have hg := HW.out _ (getD_memS hlt)
      have hD := fun W => del_any (L.getD k (0, 0)).1 (L.getD k (0, 0)).2 W hg.2
      have HT := hidS (ptakeS (0, 0) L k hlt)
      by_cases h0 : (L.getD k (0, 0)).2 = 0
      · have HG := hidS h0
        rw [h0] at hD x1
        rw [decide_eq_true rfl] at hD
        have hz : (((0 : Nat)) : Int) = 0 := rfl
        rw [hz] at hD x1
        generalize (L.getD k (0, 0)).1 = c0 at *
        have hD' := hD wr
        go_wp2_with (first
          | (go_at_call 68; with_reducible refine hD'.mono ?_; rintro e wq ⟨rfl, q, os', hq⟩; subst wq))
        go_ret
        exact ⟨⟨_, rfl, .inr ⟨k, rfl, hlt, HA.out, HG.out⟩⟩, btS hbw (below_grow _ _ _)⟩
      · have HG := hidS h0
        rw [decide_eq_false h0] at hD
        generalize hc2 : (L.getD k (0, 0)).2 = c1 at *
        generalize (L.getD k (0, 0)).1 = c0 at *
        have hD' := hD wr
        go_wp2_with (first
          | (go_at_call 68; with_reducible refine hD'.mono ?_; rintro e wq ⟨rfl, q, os', hq⟩; subst wq))
        go_roundw
        case rel =>
          refine ⟨k + 1, by omega, by go_num, fun p hp => ?_, btS hbw (below_grow _ _ _)⟩
          rw [HT.out] at hp
          rcases List.mem_append.1 hp with h | h
          · exact HA.out p h
          · rw [List.mem_singleton.1 h, hc2]; exact HG.out
        case measure => simp [intOf]; omega
    · obtain rfl : k = L.length := by omega
      have hltI : ¬ (L.length : Int) < (L.length : Int) := by omega
      go_wp2_with fail
      go_ret
      have hA2 : ∀ p ∈ L, ¬ p.2 = 0 := by have := HA.out; rwa [List.take_length] at this
      exact ⟨⟨_, rfl, .inl ⟨rfl, fun a b h => hA2 (a, b) h⟩⟩, hbw⟩
end Go.Proofs.YtnplimdcfbgpeaaDoor
namespace Go.Proofs.YtnplimdcfbgpeaaDoor
open Go.RowKit Go.WideShapes Go.Sort
set_option maxRecDepth 100000

def kp (p : Nat × Nat) : Bool := !decide (p.2 = 0)
theorem grown2 {w w1 w2 : World} {r : Option Nat} (h : w.grownBy w1 r) (h' : w1.grownBy w2 r) : w.grownBy w2 r :=
  ⟨h'.os.trans h.os, h'.tape.trans h.tape, h'.output.trans h.output, Nat.le_trans h.size h'.size, fun b hb hn => (h'.block b (Nat.lt_of_lt_of_le hb h.size) hn).trans (h.block b hb hn)⟩
theorem stored_all {B e g n cap : Nat} : ∀ (vs : List Value) (o : Nat) (xs : List Value) (w : World), w.ownsRow B e 2 (.slice (some ⟨g, 0, none⟩) n cap) n xs →
    ∃ xs', (w.setCells g o vs).ownsRow B e 2 (.slice (some ⟨g, 0, none⟩) n cap) n xs' ∧ xs'.take o = xs.take o ∧ w.grownBy (w.setCells g o vs) (some g)
  | [], _, xs, w, h => ⟨xs, h, rfl, World.grownBy.refl _ _⟩
  | v :: r, o, xs, w, h => by
    obtain ⟨R, G⟩ := h.stored o v
    obtain ⟨xs', h1, h2, h3⟩ := stored_all r (o + 1) _ _ R
    refine ⟨xs', h1, ?_, grown2 G h3⟩
    have := congrArg (List.take o) h2
    rw [List.take_take, List.take_take, Nat.min_eq_left (by omega), List.take_set_of_le (by omega)] at this
    exact this
theorem own_prefix {w : World} {B e g n m cap : Nat} {xs : List Value} (h : w.ownsRow B e 2 (.slice (some ⟨g, 0, none⟩) n cap) n xs) (hm : m ≤ n) : w.ownsRow B e 2 (.slice (some ⟨g, 0, none⟩) m cap) m (xs.take (m * 2)) := by
  have hl := h.1
  rcases h.2 with ⟨e1, _⟩ | ⟨g', cap', cur, e1, a1, a2, a3, a4, a5, a6⟩
  · simp at e1
  · simp only [Value.slice.injEq, Option.some.injEq, Addr.mk.injEq, and_true, true_and] at e1
    obtain ⟨rfl, rfl⟩ := e1
    refine ⟨by rw [List.length_take]; omega, .inr ⟨g, cap, cur, rfl, a1, a2, by omega, a4, a5, ?_⟩⟩
    rw [← a6, List.take_take, Nat.min_eq_left (by omega)]
theorem zeros_all (n : Nat) : ∀ v ∈ (Builtin.zeroCells #[Value.int .u32 0, Value.int .u32 0] n).toList, v.oneCell' = true := by
  intro v hv
  simp [Builtin.zeroCells] at hv
  obtain ⟨i, _, rfl⟩ := hv
  rcases Nat.mod_two_eq_zero_or_one i with h | h <;> simp [h] <;> rfl
theorem zeros_len (n : Nat) : (Builtin.zeroCells #[Value.int .u32 0, Value.int .u32 0] n).toList.length = n * 2 := by simp [Builtin.zeroCells]
theorem sv_set (M : List (Nat × Nat)) (i : Nat) (c : Nat × Nat) (h : i < M.length) : sv (M.set i c) = ((sv M).set (i * 2) (.int .u32 c.1)).set (i * 2 + 1) (.int .u32 c.2) := by
  have hl : (sv (M.take i)).length = i * 2 := by rw [sv_len, List.length_take]; omega
  have e1 : M.set i c = M.take i ++ c :: M.drop (i + 1) := by rw [List.set_eq_take_append_cons_drop, if_pos h]
  have e2 : M = M.take i ++ M[i] :: M.drop (i + 1) := by rw [← List.drop_eq_getElem_cons h, List.take_append_drop]
  have e3 : sv M = sv (M.take i) ++ .int .u32 M[i].1 :: .int .u32 M[i].2 :: sv (M.drop (i + 1)) := by
    conv => lhs; rw [e2]
    rw [sv_append]; rfl
  rw [e1, sv_append, e3, List.set_append_right _ _ (by omega), List.set_append_right _ _ (by omega), hl]
  simp [sv]
theorem run_clear_row (w : World) (ty : TypeId) (g o n c : Nat)
    (hc : ∀ j, j < n * 2 → (w.cell? ⟨g, o + j, none⟩).isSome = true) (hf : ∀ j, j < n * 2 → w.frozen? ⟨g, o + j, none⟩ = false) :
    (Builtin.clear_ #[43] ty #[.slice (some ⟨g, o, none⟩) n c]).run Tryd.prog w = .ok (.tuple #[]) (w.setCells g o (Builtin.zeroCells #[Value.int .u32 0, Value.int .u32 0] n).toList) := by
  have ht : Tryd.prog.underlying 43 = some (.slice 47) := Tryd.underlying43
  have hst := run_storeCells_cells (P := Tryd.prog) g o (Builtin.zeroCells #[Value.int .u32 0, Value.int .u32 0] n).toList 0 w (fun j hj => by rw [zeros_len] at hj; simpa using hc j hj) (fun j hj => by rw [zeros_len] at hj; simpa using hf j hj) (zeros_all n)
  simp only [Nat.add_zero] at hst
  obtain ⟨i0, hi, hz0, hz1, hz2⟩ := info_parts Tryd.infoS
  have hv : (zeroValue 47).run Tryd.prog w = .ok (.agg #[.int .u32 0, .int .u32 0]) w := by
    simp [zeroValue, typeInfo, hi, hz0]
  cases n with
  | zero =>
    have e : (Builtin.zeroCells #[Value.int .u32 0, Value.int .u32 0] 0).toList = [] := by simp [Builtin.zeroCells]
    rw [e]
    simp [Builtin.clear_, run_underlying ht, World.setCells]
  | succ n =>
    simp [Builtin.clear_, run_underlying ht, hv, Value.cells, hst]
theorem wpList_clear {w : World} {ops : Array Oper} {rest : List Oper} {o : Oper} {a : Act} {Q : Exit → Act → World → Prop} (hgd : o.guard = none) (x : Operand)
    (ho : o.op = .call { callee := .builtin .clear, args := #[x], argTypes := #[43] })
    (g of n c : Nat) (hx : a.eval x = .slice (some ⟨g, of, none⟩) n c) (hc : ∀ j, j < n * 2 → (w.cell? ⟨g, of + j, none⟩).isSome = true) (hf : ∀ j, j < n * 2 → w.frozen? ⟨g, of + j, none⟩ = false)
    (h : wpList Tryd.prog ops Q rest (a.put o.dst (.tuple #[])) (w.setCells g of (Builtin.zeroCells #[Value.int .u32 0, Value.int .u32 0] n).toList)) :
    wpList Tryd.prog ops Q (o :: rest) a w := by
  have hr := run_clear_row w o.type g of n c hc hf
  refine wpList_plain hgd fun K hK => ?_
  unfold Oper.wp execOp
  simp only [ho, resolve, invoke, builtin, Sem.run_bind, Sem.run_pure, Result.andThen_ok, List.map_toArray, List.map_cons, List.map_nil, hx, hr]
  exact hK _ _ h
set_option maxHeartbeats 1000000 in
/-- the spans without bytes are struck -/
theorem delf_any (g cap B : Nat) (L : List (Nat × Nat)) (w : World) (hn : L.length ≤ 1048576) (hw : Wfs L) (hB : B ≤ w.heap.size) (hcap : L.length ≤ cap)
    (hown : w.ownsRow B 47 2 (.slice (some ⟨g, 0, none⟩) L.length cap) L.length (sv L)) :
    Calls Tryd.prog 66 #[.slice (some ⟨g, 0, none⟩) L.length cap, .func (.func 68) #[] #[]] w fun e w' =>
      e = .returned (.slice (some ⟨g, 0, none⟩) (L.filter kp).length cap) ∧ w'.ownsRow B 47 2 (.slice (some ⟨g, 0, none⟩) (L.filter kp).length cap) (L.filter kp).length (sv (L.filter kp)) ∧ Below B w w' := by
  obtain ⟨ao, cp, he, hrd⟩ := own_srd hown
  have hI := idx_any g 0 cap L w hn hw (hown.lt g rfl).2 (fun j hj => by
    obtain ⟨b, off, e, hlt, hc⟩ := hrd (by omega)
    simp only [Value.slice.injEq] at he
    obtain ⟨rfl, _⟩ := he
    cases e
    exact hc j hj)
  have HW := hidS hw
  have HI := hidS hI
  clear he hrd hw hI
  go_enter Tryd.func66, Tryd.ntmps66
  go_wp2_with fail
  with_reducible refine HI.out.mono ?_
  rintro e w1 ⟨⟨i, rfl, hi⟩, hb1⟩
  have own1 := own_below hown hb1
  rcases hi with ⟨rfl, hall⟩ | ⟨k, rfl, hk, hall, h0⟩
  · have hfl : L.filter kp = L := List.filter_eq_self.2 (fun p hp => by simp [kp, hall p hp])
    have HF := hidS hfl
    clear HI hall HW hown hfl
    go_wp2_with fail
    go_ret
    rw [HF.out]
    exact ⟨rfl, own1, hb1.mono hB⟩
  · have hkI : ((k : Int) == -1) = false := by
      rw [beq_eq_false_iff_ne]; omega
    have hbB := hb1.mono hB
    have hst : (L.take (k + 1)).filter kp = L.take k := by
      rw [ptakeS (0, 0) L k hk, List.filter_append]
      have e1 : [L.getD k (0, 0)].filter kp = [] := by
        rw [List.filter_cons, show kp (L.getD k (0, 0)) = false by unfold kp; rw [h0]; rfl]; rfl
      rw [e1, List.append_nil]
      exact List.filter_eq_self.2 (fun p hp => by simp [kp, hall p hp])
    have HST := hidS hst
    clear HI hown hall h0 hst hb1
    go_wp2_with fail
    go_loopw [5, 6] (fun u v wr => ∃ (i j : Nat) (M : List (Nat × Nat)), u = .int .i64 i ∧ v = .int .i64 j ∧ i < j ∧ j ≤ L.length ∧ M.length = L.length ∧ M.take i = (L.take j).filter kp ∧ M.drop j = L.drop j ∧ wr.ownsRow B 47 2 (.slice (some ⟨g, 0, none⟩) L.length cap) L.length (sv M) ∧ Below B w wr)
      (fun _ v _ => L.length - (intOf v).toNat)
    case atStart => exact ⟨k, k + 1, L, rfl, by go_num, by omega, by omega, rfl, HST.out.symm, rfl, own1, hbB⟩
    case round =>
      clear own1 hbB HST
      obtain ⟨i, j, M, rfl, rfl, hij, hj, hM, ht, hd, hown, hb⟩ := hrel
      have HT := hidS ht
      have HD := hidS hd
      clear ht hd
      by_cases hlt : j < L.length
      · have hltI : (j : Int) < (L.length : Int) := by omega
        obtain ⟨e0, e1⟩ := sv_get M j (by omega)
        have x0 := hown.cells (g := g) rfl _ _ e0
        have x1 := hown.cells (g := g) rfl _ _ e1
        rw [add_plain, Nat.zero_add] at x0 x1
        have eM : M.getD j (0, 0) = L.getD j (0, 0) := by
          have := congrArg (fun l => l.getD 0 (0, 0)) HD.out
          simpa [List.getD_eq_getElem?_getD] using this
        rw [eM] at x0 x1
        have hwf := HW.out _ (getD_memS hlt)
        have hD := fun W => del_any (L.getD j (0, 0)).1 (L.getD j (0, 0)).2 W hwf.2
        have HT2 := hidS (ptakeS (0, 0) L j hlt)
        have HD2 : Hid (M.drop (j + 1) = L.drop (j + 1)) := by
          have := congrArg (List.drop 1) HD.out
          rwa [List.drop_drop, List.drop_drop] at this
        have HKP : Hid (kp (L.getD j (0, 0)) = !decide ((L.getD j (0, 0)).2 = 0)) := rfl
        generalize hcc : L.getD j (0, 0) = c at *
        clear e0 e1 eM
        go_wp2_with fail
        with_reducible refine (hD _).mono ?_
        rintro e wq ⟨rfl, q, os', hq⟩
        have bq : Below (wr.alloc (.cells #[.int .u32 (c.1 : Int), .int .u32 (c.2 : Int)] 47)).heap.size (wr.alloc (.cells #[.int .u32 (c.1 : Int), .int .u32 (c.2 : Int)] 47)) wq := by rw [hq]; exact below_grow _ _ _
        have ownq := own_below (hown.alloc (.cells #[.int .u32 (c.1 : Int), .int .u32 (c.2 : Int)] 47)) bq
        have bB : Below B w wq := (hb.alloc (Nat.le_trans hB hb.size) _).trans (bq.mono (by have := hb.size; simp; omega))
        by_cases h0 : c.2 = 0
        · have HK0 : Hid (kp c = false) := by rw [Hid, HKP.out]; simp [h0]
          rw [decide_eq_true h0]
          clear hD hq bq hown x0 x1 hb
          go_wp2_with fail
          go_roundw
          case rel =>
            refine ⟨i, j + 1, M, rfl, by go_num, by omega, by omega, hM, ?_, HD2.out, ownq, bB⟩
            rw [HT.out, HT2.out, List.filter_append]
            simp [HK0.out]
          case measure => simp [intOf]; omega
        · have HK0 : Hid (kp c = true) := by rw [Hid, HKP.out]; simp [h0]
          rw [decide_eq_false h0]
          have z0 := (bq.block wr.heap.size (by simp)).trans (heap_alloc_last wr _)
          have v0 : wq.cell? ⟨wr.heap.size, 0, none⟩ = some (.int .u32 c.1) := by unfold World.cell?; simp only [z0]; rfl
          have v1 : wq.cell? ⟨wr.heap.size, 1, none⟩ = some (.int .u32 c.2) := by unfold World.cell?; simp only [z0]; rfl
          obtain ⟨e0, e1⟩ := sv_get M i (by omega)
          have y0 := ownq.cells (g := g) rfl _ _ e0
          have y1 := ownq.cells (g := g) rfl _ _ e1
          rw [add_plain, Nat.zero_add] at y0 y1
          have f0 := ownq.frozenAt (i * 2)
          have f1 := ownq.frozenAt (i * 2 + 1)
          obtain ⟨R1, G1⟩ := ownq.stored (i * 2) (.int .u32 c.1)
          have hx1 : ((sv M).set (i * 2) (.int .u32 c.1))[i * 2 + 1]? = some (.int .u32 (M.getD i (0, 0)).2) := by
            rw [List.getElem?_set_ne (by omega)]; exact e1
          have y2 := R1.cells (g := g) rfl _ _ hx1
          rw [add_plain, Nat.zero_add] at y2
          have f2 := R1.frozenAt (i * 2 + 1)
          obtain ⟨R2, G2⟩ := R1.stored (i * 2 + 1) (.int .u32 c.2)
          rw [← sv_set M i c (by omega)] at R2
          have hgB := (ownq.lt g rfl).1
          have bB2 := (bB.setCell (p := ⟨g, i * 2, none⟩) hgB (.int .u32 c.1)).setCell (p := ⟨g, i * 2 + 1, none⟩) hgB (.int .u32 c.2)
          have hiI : (i : Int) < (L.length : Int) := by omega
          generalize (M.getD i (0, 0)).1 = q0 at y0
          generalize (M.getD i (0, 0)).2 = q1 at y1 y2
          clear hD hq bq hown x0 x1 hb R1 G1 G2 e0 e1 hx1 z0 ownq bB
          go_wp2_with fail
          go_roundw
          case rel =>
            refine ⟨i + 1, j + 1, M.set i c, by go_num, by go_num, by omega, by omega, by rw [List.length_set]; exact hM, ?_, ?_, R2, bB2⟩
            · rw [List.set_eq_take_append_cons_drop, if_pos (by omega), HT2.out, List.filter_append, ← HT.out]
              have hl : (M.take i).length = i := by rw [List.length_take]; omega
              rw [show M.take i ++ c :: M.drop (i + 1) = (M.take i ++ [c]) ++ M.drop (i + 1) by simp, List.take_append_of_le_length (by simp [hl]), List.take_of_length_le (by simp [hl])]
              simp [HK0.out]
            · rw [List.drop_set_of_lt (by omega)]; exact HD2.out
          case measure => simp [intOf]; omega
      · obtain rfl : j = L.length := by omega
        have hltI : ¬ (L.length : Int) < (L.length : Int) := by omega
        have hF : (L.filter kp) = M.take i := by have := HT.out; rw [List.take_length] at this; exact this.symm
        have hFl : (L.filter kp).length = i := by rw [hF, List.length_take]; omega
        have HF := hidS hF
        have HFL := hidS hFl
        have hiI : (i : Int) ≤ (L.length : Int) := by omega
        have hiC : (i : Int) ≤ (cap : Int) := by omega
        obtain ⟨xs', S1, S2, S3⟩ := stored_all (Builtin.zeroCells #[Value.int .u32 0, Value.int .u32 0] (L.length - i)).toList (i * 2) _ _ hown
        have S4 := own_prefix S1 (m := i) (by omega)
        rw [S2] at S4
        clear hF hFl
        have hcells : ∀ j, j < (L.length - i) * 2 → (wr.cell? ⟨g, i * 2 + j, none⟩).isSome = true := fun j hj => by
          have hlt2 : i * 2 + j < (sv M).length := by rw [sv_len]; omega
          have := hown.cells (g := g) rfl (i * 2 + j) _ (List.getElem?_eq_getElem hlt2)
          rw [add_plain, Nat.zero_add] at this
          rw [this]; rfl
        have hclr := run_clear_row wr 0 g (i * 2) (L.length - i) (cap - i) hcells (fun j _ => hown.frozenAt (i * 2 + j))
        have hgB := (hown.lt g rfl).1
        have bB : Below B w (wr.setCells g (i * 2) (Builtin.zeroCells #[Value.int .u32 0, Value.int .u32 0] (L.length - i)).toList) := hb.trans ⟨S3.os, S3.tape, S3.output, S3.size, fun b hb' => S3.block b (by have := hb.size; omega) (fun e => by cases e; omega)⟩
        generalize wr.setCells g (i * 2) (Builtin.zeroCells #[Value.int .u32 0, Value.int .u32 0] (L.length - i)).toList = W3 at *
        clear hcells S1 S2 S3 hown hb
        go_wp2_with fail
        go_ret
        rw [HFL.out, HF.out]
        refine ⟨rfl, ?_, bB⟩
        have e : sv (M.take i) = (sv M).take (i * 2) := by
          have := sv_append (M.take i) (M.drop i)
          rw [List.take_append_drop] at this
          have hl : (sv (M.take i)).length = i * 2 := by rw [sv_len, List.length_take]; omega
          rw [this, List.take_append_of_le_length (by omega)]
          exact (List.take_of_length_le (by omega)).symm
        rw [e]
        exact S4
end Go.Proofs.YtnplimdcfbgpeaaDoor
namespace Go.Proofs.YtnplimdcfbgpeaaDoor
open Go.RowKit Go.WideShapes Go.Sort
set_option maxRecDepth 100000

set_option maxHeartbeats 1000000 in
theorem search_any (n g : Nat) (lb : Array Value) (pr : Nat → Bool) (w : World) (hn : n ≤ 1048576) (eg : ∀ args w, (callFunc g args).run Tryd.prog w = .ok (.enter g args) w)
    (hf : ∀ h : Nat, h < n → ∀ W, Below w.heap.size w W → Calls Tryd.prog g (#[.int .i64 (h : Int)] ++ lb) W fun e w' => e = .returned (.bool (pr h)) ∧ Below W.heap.size W w') :
    Calls Tryd.prog 51 #[.int .i64 (n : Int), .func (.func g) #[] lb] w fun e w' => (∃ i : Nat, e = .returned (.int .i64 i) ∧ i ≤ n ∧ (i = n ∨ pr i = true) ∧ (i = 0 ∨ pr (i - 1) = false)) ∧ Below w.heap.size w w' := by
  have HF := hidS hf
  clear hf
  go_enter Tryd.func51, Tryd.ntmps51
  go_wp2_with fail
  go_loopw [5, 6] (fun u v wr => ∃ i j : Nat, u = .int .i64 i ∧ v = .int .i64 j ∧ i ≤ j ∧ j ≤ n ∧ (j = n ∨ pr j = true) ∧ (i = 0 ∨ pr (i - 1) = false) ∧ Below w.heap.size w wr)
    (fun u v _ => (intOf v).toNat - (intOf u).toNat)
  case atStart => exact ⟨0, n, rfl, rfl, Nat.zero_le _, Nat.le_refl _, .inl rfl, .inl rfl, Below.refl _ _⟩
  case round =>
    obtain ⟨i, j, rfl, rfl, hij, hj, h1, h2, hb⟩ := hrel
    have H1 := hidS h1
    have H2 := hidS h2
    clear h1 h2
    by_cases hlt : i < j
    · have hltI : (i : Int) < (j : Int) := by omega
      have hC := HF.out ((i + j) / 2) (by omega) _ hb
      have hcast : ((((i + j) / 2 : Nat)) : Int) = ((i : Int) + (j : Int)) / 2 := by omega
      rw [hcast] at hC
      obtain ⟨m, hm⟩ : ∃ m : Nat, (i + j) / 2 = m := ⟨_, rfl⟩
      rw [hm] at hC
      have HM := hidS hm
      have hmI : ((i : Int) + (j : Int)) / 2 = (m : Int) := by omega
      rw [hmI] at hC
      clear hcast hm
      cases hp : pr m
      · rw [hp] at hC
        go_wp2_with fail
        with_reducible refine hC.mono ?_
        rintro e wq ⟨rfl, hq⟩
        go_wp2_with fail
        go_roundw
        case rel =>
          have := HM.out
          refine ⟨m + 1, j, by go_num, rfl, by omega, hj, H1.out, .inr (by simpa using hp), btS hb hq⟩
        case measure =>
          have := HM.out
          simp [intOf]; omega
      · rw [hp] at hC
        go_wp2_with fail
        with_reducible refine hC.mono ?_
        rintro e wq ⟨rfl, hq⟩
        go_wp2_with fail
        go_roundw
        case rel =>
          have := HM.out
          exact ⟨i, m, rfl, by go_num, by omega, by omega, .inr hp, H2.out, btS hb hq⟩
        case measure =>
          have := HM.out
          simp [intOf]; omega
    · obtain rfl : i = j := by omega
      have hltI : ¬ (i : Int) < (i : Int) := by omega
      go_wp2_with fail
      go_ret
      exact ⟨⟨i, rfl, hj, H1.out, H2.out⟩, hb⟩
end Go.Proofs.YtnplimdcfbgpeaaDoor
namespace Go.Proofs.YtnplimdcfbgpeaaDoor
open Go.RowKit Go.WideShapes Go.Sort
set_option maxRecDepth 100000

theorem nil_eqS (a : Option Addr) (n c : Nat) (w : World) : (binOp .eql 43 (.slice a n c) (.slice none 0 0)).run Tryd.prog w = .ok (.bool a.isNone) w := by
  have e : binOp .eql 43 (.slice a n c) (.slice none 0 0) = (do pure (.bool (← Op.equal 43 (.slice a n c) (.slice none 0 0)))) := rfl
  rw [e, Sem.run_bind, run_equal_slice_nil w _ _ a n c Tryd.underlying43]
  rfl
theorem own_capS {w : World} {B e sz g n c : Nat} {xs : List Value} (h : w.ownsRow B e sz (.slice (some ⟨g, 0, none⟩) n c) n xs) : n ≤ c := by
  rcases h.2 with ⟨e1, _⟩ | ⟨g', cap', cur, e1, _, _, hc, _⟩
  · simp at e1
  · simp only [Value.slice.injEq] at e1
    rw [e1.2.2]; exact hc
set_option maxHeartbeats 1000000 in
theorem sclone_any (ad : Addr) (cap : Nat) (L : List (Nat × Nat)) (w : World) (hn : L.length ≤ 1048576) (hpos : 0 < L.length) (hr : SRd w (some ad) L w.heap.size) :
    Calls Tryd.prog 67 #[.slice (some ad) L.length cap] w fun e w' => ∃ g c, e = .returned (.slice (some ⟨g, 0, none⟩) L.length c) ∧ L.length ≤ c ∧ w'.ownsRow w.heap.size 47 2 (.slice (some ⟨g, 0, none⟩) L.length c) L.length (sv L) ∧ Below w.heap.size w w' := by
  obtain ⟨i0, hi, hz0, hz1, hz2⟩ := info_parts Tryd.infoS
  have hq := nil_eqS (some ad) L.length cap w
  have own0 := World.ownsRow_lit (size := 2) (base := w.heap.size) (e := 47) w #[] 0 (Nat.le_refl _) (by decide) rfl
  have hb0 : Below w.heap.size w (w.alloc (.cells #[] 47)) := (Below.refl w.heap.size w).alloc (Nat.le_refl _) _
  have hr0 := hr.below hb0
  have hcl : ∀ j u, (sv L)[j]? = some u → (w.alloc (.cells #[] 47)).cell? (ad.add j) = some u := by
    intro j u hj
    have hjl : j < L.length * 2 := by
      have := (List.getElem?_eq_some_iff.1 hj).1
      rwa [sv_len] at this
    obtain ⟨b, off, e, hlt, hc⟩ := hr0 (by omega)
    simp only [Option.some.injEq] at e
    subst e
    obtain ⟨c0, c1⟩ := hc (j / 2) (by omega)
    obtain ⟨s0, s1⟩ := sv_get L (j / 2) (by omega)
    rw [add_plain]
    rcases Nat.mod_two_eq_zero_or_one j with h | h
    · have e2 : j / 2 * 2 = j := by omega
      rw [e2] at c0 s0
      rw [c0, ← hj, s0]
    · have e2 : j / 2 * 2 + 1 = j := by omega
      rw [Nat.add_assoc, e2] at c1
      rw [e2] at s1
      rw [c1, ← hj, s1]
  have HC : Hid (∀ j u, (sv L)[j]? = some u → (w.alloc (.cells #[] 47)).cell? (ad.add j) = some u) := hcl
  clear hcl hr0 hr
  go_enter Tryd.func67, Tryd.ntmps67
  go_wp2_with (at_builtin; refine wpList_append_lies _ rfl _ _ 43 rfl w.heap.size 47 i0 (.agg #[.int .u32 0, .int .u32 0]) 2 8 Tryd.underlying43 hi hz0 hz1 hz2 rfl (by decide) _ 0 [] rfl own0 ad L.length cap (sv L) rfl (sv_len L) HC.out (sv_one' L) hpos ?d3 ?d4 ?d5 (w.heap.size + 1) ?d6 ?_)
  case d3 => unfold maxLen; omega
  case d4 => omega
  intro g c w1 hown' hgrow _ _
  have R2 : Below w.heap.size w w1 := hb0.grown hgrow (by simp) (fun k e => by simp [Value.ownBlock] at e; omega)
  try simp only [Nat.zero_add, List.nil_append] at hown'
  have hc := own_capS hown'
  clear hgrow own0 hb0 HC
  go_wp2
  go_ret
  exact ⟨_, _, rfl, hc, hown', R2⟩
end Go.Proofs.YtnplimdcfbgpeaaDoor
