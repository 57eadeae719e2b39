import Derived.Test.YtonmoidalkcmoaaCZMs
import Derived.Test.YtonmoidalkcmoaaCZMc
import Derived.Test.YtonmoidalkcmoaaCZAw
import Derived.Test.YtonmoidalkcmoaaCDPl
import Derived.Test.YtonmoidalkcmoaaCZMg
namespace Go.Proofs.Ytonmoidalkcmoaa
set_option maxHeartbeats 8000000
open Go.RowKit Go.WideShapes
set_option maxRecDepth 100000
set_option linter.unusedVariables false
set_option linter.unusedSimpArgs false
theorem wpList_append_zeroM {P : Program} {w : World} {ops : Array Oper} {rest : List Oper} {o : Oper} {a : Act} {Q : Exit → Act → World → Prop} (hgd : o.guard = none) (s x : Operand) (t : TypeId)
    (ho : o.op = .call { callee := .builtin .append, args := #[s, x], argTypes := #[t, t] })
    (e : TypeId) (i : TypeInfo) (z : Value) (ht : P.underlying t = some (.slice e)) (hi : P.info? e = some i) (hz : i.zero = some z)
    (ad : Addr) (oo : Option Addr) (n c c2 : Nat) (hs : a.eval s = .slice (some ad) n c) (hx : a.eval x = .slice oo 0 c2) (hnc : n ≤ c)
    (h : wpList P ops Q rest (a.put o.dst (.slice (some ad) n c)) w) : wpList P ops Q (o :: rest) a w := by
  refine wpList_plain hgd fun _ hK => ?_
  have hr : (Builtin.append_ #[t, t] o.type #[.slice (some ad) n c, .slice oo 0 c2]).run P w = .ok (.slice (some ad) n c) w := by
    cases oo with
    | none => simp [Builtin.append_, run_underlying ht, sizeOf, typeInfo, zeroValue, hi, hz, Builtin.lenOf, hnc, run_firstCells_none, storeCells]
    | some ad2 => simp [Builtin.append_, run_underlying ht, sizeOf, typeInfo, zeroValue, hi, hz, Builtin.lenOf, hnc, Builtin.firstCells, storeCells, loadCells, loadCellsFrom]
  unfold Oper.wp execOp
  simp only [ho, resolve, invoke, builtin, Sem.run_bind, Sem.run_pure, Result.andThen_ok, List.map_toArray, List.map_cons, List.map_nil, hs, hx, hr]
  exact hK _ _ h
/-- words put behind an owned row -/
theorem app_words {w0 W : World} {ops : Array Oper} {rest : List Oper} {o : Oper} {a : Act} {Q : Exit → Act → World → Prop} (hgd : o.guard = none) (s x : Operand)
    (ho : o.op = .call { callee := .builtin .append, args := #[s, x], argTypes := #[24, 24] })
    {g n c : Nat} {xs : List Nat} (hs : a.eval s = .slice (some ⟨g, 0, none⟩) n c) (hown : W.ownsRow 0 23 1 (.slice (some ⟨g, 0, none⟩) n c) n (dv xs)) {oo : Option Addr} {co : Nat} {ys : List Nat} (hx : a.eval x = .slice oo ys.length co) (hr : RdWd W oo ys)
    (hl : n + ys.length ≤ 35184372088832) (hB : Below w0.heap.size w0 W) (hg : w0.heap.size ≤ g)
    (h : ∀ g' c' w', w'.ownsRow 0 23 1 (.slice (some ⟨g', 0, none⟩) (n + ys.length) c') (n + ys.length) (dv (xs ++ ys)) → w0.heap.size ≤ g' → Below w0.heap.size w0 w' → wpList Try.prog ops Q rest (a.put o.dst (.slice (some ⟨g', 0, none⟩) (n + ys.length) c')) w') : wpList Try.prog ops Q (o :: rest) a W := by
  obtain ⟨i0, hi, hz0, hz1, hz2⟩ := info_parts Try.infoD
  by_cases hp : 0 < ys.length
  · obtain ⟨b, off, rfl, hc⟩ := hr hp
    refine wpList_append_lies _ hgd s x 24 ho 0 23 i0 (.int .u32 0) 1 4 Try.underlying24 hi hz0 hz1 hz2 rfl (by decide) _ n (dv xs) hs hown ⟨b, off, none⟩ ys.length co (dv ys) hx (by simp [dv]) ?_ ?_ hp (by unfold maxLen; omega) (by omega) (Nat.zero_le _) W.heap.size rfl ?_
    · intro j u hj
      have hjl : j < ys.length := by
        have := (List.getElem?_eq_some_iff.1 hj).1
        simpa [dv] using this
      rw [show (⟨b, off, none⟩ : Addr).add j = ⟨b, off + j, none⟩ by unfold Addr.add; split <;> simp_all, hc j hjl, ← hj]
      simp [dv, hjl]
    · intro u hu
      simp only [dv, List.mem_map] at hu
      obtain ⟨z, _, rfl⟩ := hu
      rfl
    · intro g' c' w' own' hgr hgg _
      refine h g' c' w' ?_ ?_ ?_
      · rw [show dv (xs ++ ys) = dv xs ++ dv ys by simp [dv]]; exact own'
      · rcases hgg with e | e
        · simp only [Value.ownBlock, Option.some.injEq] at e; omega
        · rw [e]; exact hB.size
      · exact hB.grown hgr hB.size (fun k e => by simp only [Value.ownBlock, Option.some.injEq] at e; omega)
  · have hz : ys.length = 0 := by omega
    have hy : ys = [] := List.length_eq_zero_iff.1 hz
    have hnc : n ≤ c := by
      rcases hown.2 with ⟨e, _⟩ | ⟨g2, c2, cur, e, _, _, hc, _⟩
      · cases e
      · simp only [Value.slice.injEq] at e
        obtain ⟨_, _, rfl⟩ := e
        exact hc
    rw [hz] at hx
    refine wpList_append_zeroM hgd s x 24 ho 23 i0 (.int .u32 0) Try.underlying24 hi hz0 ⟨g, 0, none⟩ oo n c co hs hx hnc ?_
    have := h g c W (by rw [hy, List.append_nil, List.length_nil, Nat.add_zero]; exact hown) hg hB
    rwa [hy, List.length_nil, Nat.add_zero] at this
/-- two words -/
theorem slice2_run (w : World) : (Instr.buildSlice 24 2 #[(0, .int .u32 7), (1, .int .u32 9)]).run Try.prog w = .ok (.slice (some ⟨w.heap.size, 0, none⟩) 2 2) (w.alloc (.cells #[.int .u32 7, .int .u32 9] 23)) := by kernel_rfl
theorem exec_slice2 {o : Oper} {a : Act} {w w1 : World} (p q : Operand) (hw : w.alloc (.cells #[.int .u32 7, .int .u32 9] 23) = w1) (ho : o.op = .buildSlice 24 2 #[(0, p), (1, q)]) (hp : a.eval p = .int .u32 7) (hq : a.eval q = .int .u32 9) : (execOp a.eval o).run Try.prog w = .ok (.value (.slice (some ⟨w.heap.size, 0, none⟩) 2 2)) w1 := by
  subst hw
  unfold execOp
  simp only [ho, hp, hq, List.map_toArray, List.map_cons, List.map_nil, Sem.run_bind, slice2_run, Result.andThen_ok, Sem.run_pure]
/-- two words put behind nothing -/
theorem app_two {w0 : World} {ops : Array Oper} {rest : List Oper} {o : Oper} {a : Act} {Q : Exit → Act → World → Prop} (hgd : o.guard = none) (s x : Operand)
    (ho : o.op = .call { callee := .builtin .append, args := #[s, x], argTypes := #[24, 24] })
    (hs : a.eval s = .slice none 0 0) (hx : a.eval x = .slice (some ⟨w0.heap.size, 0, none⟩) 2 2)
    (h : ∀ g' c' w', w'.ownsRow 0 23 1 (.slice (some ⟨g', 0, none⟩) 2 c') 2 (dv [7, 9]) → w0.heap.size ≤ g' → Below w0.heap.size w0 w' → wpList Try.prog ops Q rest (a.put o.dst (.slice (some ⟨g', 0, none⟩) 2 c')) w') : wpList Try.prog ops Q (o :: rest) a (w0.alloc (.cells #[.int .u32 7, .int .u32 9] 23)) := by
  obtain ⟨i0, hi, hz0, hz1, hz2⟩ := info_parts Try.infoD
  have hB : Below w0.heap.size w0 (w0.alloc (.cells #[.int .u32 7, .int .u32 9] 23)) := (Below.refl _ _).alloc (Nat.le_refl _) _
  refine wpList_append_lies _ hgd s x 24 ho 0 23 i0 (.int .u32 0) 1 4 Try.underlying24 hi hz0 hz1 hz2 rfl (by decide) _ 0 [] hs (World.ownsRow_nil _ _ _ _) ⟨w0.heap.size, 0, none⟩ 2 2 (dv [7, 9]) hx rfl ?_ ?_ (by decide) (by unfold maxLen; omega) (by omega) (Nat.zero_le _) _ rfl ?_
  · intro j u hj
    rw [show (⟨w0.heap.size, 0, none⟩ : Addr).add j = ⟨w0.heap.size, j, none⟩ by unfold Addr.add; split <;> simp_all, obj_cell (heap_alloc_new _ _)]
    simpa [dv] using hj
  · intro u hu
    simp only [dv, List.mem_map] at hu
    obtain ⟨z, _, rfl⟩ := hu
    rfl
  · intro g' c' w' own' hgr hgg _
    refine h g' c' w' own' ?_ (hB.grown hgr hB.size (fun k e => by simp [Value.ownBlock] at e))
    rcases hgg with e | e
    · simp [Value.ownBlock] at e
    · rw [e]; exact hB.size
/-- a variable of 256 bytes -/
theorem allocA_run (w : World) : (Instr.alloc 39 true (.tuple #[])).run Try.prog w = .ok (.pointer (some ⟨w.heap.size, 0, none⟩)) (w.alloc (.cells (List.replicate 256 (.int .u8 0)).toArray 39)) := by kernel_rfl
theorem exec_allocA {o : Oper} {a : Act} {w w1 : World} {cs : Array Value} (hC : (List.replicate 256 (Value.int .u8 0)).toArray = cs) (hw : w.alloc (.cells cs 39) = w1) (ho : o.op = .alloc 39) : (execOp a.eval o).run Try.prog w = .ok (.value (.pointer (some ⟨w.heap.size, 0, none⟩))) w1 := by
  subst hw hC
  unfold execOp
  simp only [ho, Sem.run_bind, allocA_run, Result.andThen_ok, Sem.run_pure]
theorem loadB {W : World} {nb : Nat} {D : List Nat} (hD : D.length = 256) (h : W.heap[nb]? = some (.cells (btV D).toArray 39)) :
    (Instr.loadAt 39 (.pointer (some ⟨nb, 0, none⟩))).run Try.prog W = .ok (.agg (btV D).toArray) W := by
  obtain ⟨n, hu, rfl⟩ := undA
  refine run_loadAt_mid W nb 0 _ (btV D) _ (fun j v hv => ?_) hu rfl (by rw [sizeA, btV_len, hD])
  rw [Nat.zero_add, obj_cell h]
  simpa using hv
theorem stt_base (w0 : World) : Stt w0 (fun d => if d = (0, 0) then outP w0 else noP) := by
  refine ⟨fun _ => (0, 0), fun d => ?_⟩
  by_cases e : d = (0, 0)
  · simp only [e, if_true]; exact ⟨Below.refl _ _, fun _ _ => trivial⟩
  · simp only [if_neg e]; trivial
theorem PlO.keep {W W' : World} {M M' : Col → Pc} {x pm sp : Nat} {m : Pm} (h : Hid (PlO W M x pm sp m)) (hS : Stt W' M') (h0 : M' (x, 0) = M (x, 0)) (h1 : M' (x, 1) = M (x, 1)) : Hid (PlO W' M' x pm sp m) := by
  obtain ⟨_, hd2, go, cap, full, e0, e1, e2, e3⟩ := h.out
  exact dhid ⟨hS, hd2, go, cap, full, h0.trans e0, h1.trans e1, e2, e3⟩
theorem fkV_atM (L : List (Nat × Nat)) (at_ k : Nat) : (fkV L at_ k).1.len = 0 ∨ (fkV L at_ k).1.at_ = at_ := by
  unfold fkV fitV
  split
  · exact .inl rfl
  · exact .inr rfl
theorem bst_atM (L : List (Nat × Nat)) (at_ : Nat) : ∀ k, (bst L at_ k).len = 0 ∨ (bst L at_ k).at_ = at_
  | 0 => .inl rfl
  | k + 1 => by
    unfold bst
    split
    · exact fkV_atM L at_ (k + 1)
    · exact bst_atM L at_ k
theorem bst_oneM {p : Nat × Nat} {R : List (Nat × Nat)} (h : erV p.1 p.2 = 0) (at_ : Nat) : ∀ k, (bst (p :: R) at_ (k + 1)).len ≤ 1 → bst (p :: R) at_ (k + 1) = ⟨at_, 1, 1, p.1, p.2, 0⟩
  | 0, _ => by
    unfold bst
    rw [fkV_one, if_pos h]
    rfl
  | k + 1, hl => by
    have hp := bst_pos (R := R) h at_ k
    unfold bst at hl ⊢
    split
    · rename_i hlt
      rw [if_pos hlt] at hl
      omega
    · rename_i hlt
      rw [if_neg hlt] at hl
      exact bst_oneM h at_ k hl
/-- what is known of the longest thing -/
theorem flV_facts {L : List (Nat × Nat)} {a e : Nat} (hwf : Wfc L) (hE : flE L a e = 0) : (a < e ∧ e ≤ L.length) ∧ (flV L a e).at_ = a ∧ 1 ≤ (flV L a e).len ∧ a + (flV L a e).len ≤ e ∧ ((flV L a e).len = 1 → flV L a e = ⟨a, 1, 1, (L.getD a (0, 0)).1, (L.getD a (0, 0)).2, 0⟩) := by
  have hae : a < e ∧ e ≤ L.length := by
    unfold flE lnE at hE
    by_cases h : a < e ∧ e ≤ L.length
    · exact h
    · rw [if_neg h] at hE; cases hE
  have hv : erV (L.getD a (0, 0)).1 (L.getD a (0, 0)).2 = 0 := by
    unfold flE lnE at hE
    rwa [if_pos hae] at hE
  have hM : flV L a e = bst ((L.drop a).take (e - a)) a 15 := by unfold flV; rw [if_pos hE]
  have hlM : ((L.drop a).take (e - a)).length = e - a := by rw [List.length_take, List.length_drop]; omega
  have hg : ((L.drop a).take (e - a)).getD 0 (0, 0) = L.getD a (0, 0) := getD_td L a e hae.1
  have hle := bst_le (wfc_sub hwf a (e - a)) a 15
  have hat := bst_atM ((L.drop a).take (e - a)) a 15
  rw [hM]
  rw [hlM] at hle
  generalize (L.drop a).take (e - a) = M at *
  obtain _ | ⟨p, R⟩ := M
  · simp at hlM; omega
  · have hp2 : p = L.getD a (0, 0) := hg
    rw [← hp2] at hv ⊢
    have hp := bst_pos (R := R) hv a 14
    change 1 ≤ (bst (p :: R) a 15).len at hp
    exact ⟨hae, hat.resolve_left (by omega), hp, by omega, fun h1 => bst_oneM hv a 14 (by change (bst (p :: R) a 15).len ≤ 1; omega)⟩
theorem flV_bad {L : List (Nat × Nat)} {a e : Nat} (hE : ¬ flE L a e = 0) : flV L a e = fz0 := by unfold flV; rw [if_neg hE]
theorem xthing_2 {W : World} {M : Col → Pc} {x pm sp : Nat} {m : Pm} (h : Hid (PlO W M x pm sp m)) (hx : x ≠ 9) (hM : ∀ k, M (9, k) = noP) (hB : Bd m) (at_ len op a b : Nat) (hop : op < 256) (h2 : 2 ≤ m.ops.length) (hl : m.ops.length ≤ 35184372088800) :
    Calls Try.prog 10 #[.pointer (some ⟨pm, 0, none⟩), .agg (fzA ⟨at_, len, 2, op, a, b⟩)] W fun e w' => e = .returned (.tuple #[]) ∧ ∃ M', Hid (PlO w' M' x pm sp (thV sp ⟨at_, len, 2, op, a, b⟩ m)) ∧ Kx x M M' := by
  rw [thV_2]
  show Calls Try.prog 10 #[.pointer (some ⟨pm, 0, none⟩), .agg (fzI at_ len 2 op a b)] W _
  have X1 := XS.new0 (p := objP W.heap.size (fzI at_ len 2 op a b) 30) (XS.begin h hM) hx ((Below.refl _ _).alloc (Nat.le_refl _) (.cells (fzI at_ len 2 op a b) 30)) ⟨heap_alloc_new _ _, Nat.le_refl _⟩
  obtain ⟨mo, md, mp, mb⟩ := m
  simp only at *
  obtain ⟨n, hn⟩ : ∃ n, (at_ + len) % 4294967296 = n := ⟨_, rfl⟩
  have hn2 : ((at_ : Int) + (len : Int)) % 4294967296 = (n : Int) := by omega
  rw [hn]
  obtain ⟨c1, f1, _, _⟩ := X1.mcells
  have X4 := dhid (X1.setpc hx n)
  have HG := dhid X4.out.gwf
  obtain ⟨g0, g1, g2, g3, g4⟩ := HG.out _ (Below.refl _ _)
  obtain ⟨c258, f258, c259, f259⟩ := X4.out.mcells
  have HF := dhid (fun w' m' (h : XS w' M x pm sp m' (objP W.heap.size (fzI at_ len 2 op a b) 30) noP) => XS.fin h hx hM)
  have l0 : 0 < mo.length := by omega
  have l1 : mo.dropLast.length ≤ 35184372088800 := by rw [List.length_dropLast]; omega
  obtain ⟨q, hq0⟩ : ∃ q, mo.getLastD 0 = q := ⟨_, rfl⟩
  have ql : q < 4294967296 := by rw [← hq0]; exact hB.last
  have hdat := dhid hB.dat
  have HQ0 := dhid hq0
  clear X1 h hn hq0 hB
  simp only [fzI] at *
  go_enter Try.func10, Try.ntmps10
  go_wp2_with fail
  refine (X4.out.push hx a hl).mono ?_
  rintro e w3 ⟨rfl, X5⟩
  go_wp2_with fail
  first | go_end0 | refine bodyPost_ret (results_none rfl _ _ _) rfl ?_
  exact ⟨rfl, HF.out _ _ X5.out⟩
theorem xthing_3 {W : World} {M : Col → Pc} {x pm sp : Nat} {m : Pm} (h : Hid (PlO W M x pm sp m)) (hx : x ≠ 9) (hM : ∀ k, M (9, k) = noP) (hB : Bd m) (at_ len op a b : Nat) (hop : op < 256) (h2 : 2 ≤ m.ops.length) (hl : m.ops.length ≤ 35184372088800) :
    Calls Try.prog 10 #[.pointer (some ⟨pm, 0, none⟩), .agg (fzA ⟨at_, len, 3, op, a, b⟩)] W fun e w' => e = .returned (.tuple #[]) ∧ ∃ M', Hid (PlO w' M' x pm sp (thV sp ⟨at_, len, 3, op, a, b⟩ m)) ∧ Kx x M M' := by
  rw [thV_3]
  show Calls Try.prog 10 #[.pointer (some ⟨pm, 0, none⟩), .agg (fzI at_ len 3 op a b)] W _
  have X1 := XS.new0 (p := objP W.heap.size (fzI at_ len 3 op a b) 30) (XS.begin h hM) hx ((Below.refl _ _).alloc (Nat.le_refl _) (.cells (fzI at_ len 3 op a b) 30)) ⟨heap_alloc_new _ _, Nat.le_refl _⟩
  obtain ⟨mo, md, mp, mb⟩ := m
  simp only at *
  obtain ⟨n, hn⟩ : ∃ n, (at_ + len) % 4294967296 = n := ⟨_, rfl⟩
  have hn2 : ((at_ : Int) + (len : Int)) % 4294967296 = (n : Int) := by omega
  obtain ⟨c1, f1, _, _⟩ := X1.mcells
  have X4 := dhid (X1.setpc hx n)
  have HG := dhid X4.out.gwf
  obtain ⟨g0, g1, g2, g3, g4⟩ := HG.out _ (Below.refl _ _)
  obtain ⟨c258, f258, c259, f259⟩ := X4.out.mcells
  have HF := dhid (fun w' m' (h : XS w' M x pm sp m' (objP W.heap.size (fzI at_ len 3 op a b) 30) noP) => XS.fin h hx hM)
  have l0 : 0 < mo.length := by omega
  have l1 : mo.dropLast.length ≤ 35184372088800 := by rw [List.length_dropLast]; omega
  obtain ⟨q, hq0⟩ : ∃ q, mo.getLastD 0 = q := ⟨_, rfl⟩
  have ql : q < 4294967296 := by rw [← hq0]; exact hB.last
  have hdat := dhid hB.dat
  have HQ0 := dhid hq0
  clear X1 h hn hq0 hB
  simp only [fzI] at *
  go_enter Try.func10, Try.ntmps10
  go_wp2_with fail
  first | go_end0 | refine bodyPost_ret (results_none rfl _ _ _) rfl ?_
  exact ⟨rfl, HF.out _ _ (X4.out.setpc hx a)⟩
end Go.Proofs.Ytonmoidalkcmoaa
