import Derived.Test.YtfeiigfcihdimaaHGb
import Derived.Deep.WholeRow
namespace Go.Proofs.Ytfeiigfcihdimaa
open Go.RowKit
set_option maxRecDepth 100000

/-- the calls' words and how many words each has, from 16 on -/
def hws : List (ByteArray × Int) := [(⟨#[112, 114, 105, 110, 116]⟩, 1), (⟨#[112, 117, 116]⟩, 1), (⟨#[105, 110, 116]⟩, 1), (⟨#[104, 101, 120]⟩, 1), (⟨#[102, 108, 111, 97, 116]⟩, 1), (⟨#[99, 108, 101, 97, 114]⟩, 0), (⟨#[108, 101, 110, 103, 116, 104]⟩, 1), (⟨#[114, 117, 110, 101, 115]⟩, 1), (⟨#[112, 97, 114, 115, 101]⟩, 2), (⟨#[112, 97, 114, 115, 101, 102]⟩, 2), (⟨#[103, 101, 116]⟩, 2), (⟨#[115, 101, 116]⟩, 2), (⟨#[115, 101, 101, 100]⟩, 1), (⟨#[114, 97, 110, 100, 111, 109]⟩, 1), (⟨#[99, 108, 111, 99, 107]⟩, 0), (⟨#[115, 113, 114, 116]⟩, 1), (⟨#[102, 108, 111, 111, 114]⟩, 1), (⟨#[97, 98, 115]⟩, 1), (⟨#[97, 100, 100]⟩, 3), (⟨#[109, 117, 108]⟩, 3), (⟨#[100, 105, 118]⟩, 3), (⟨#[116, 117, 114, 110]⟩, 3), (⟨#[102, 97, 114]⟩, 1), (⟨#[119, 97, 118, 101]⟩, 3)]
/-- the word of a number (none: the empty text) -/
def hwd (n : Nat) : ByteArray := if n < 16 then ⟨#[]⟩ else (hws.getD (n - 16) (⟨#[]⟩, 0)).1
/-- how many words -/
def hct (n : Nat) : Int := (hws.getD (n - 16) (⟨#[]⟩, 0)).2
def rvs : List (ByteArray × Int) → List Value
  | [] => []
  | p :: L => .string p.1 :: .int .i64 p.2 :: rvs L
def libV : Array Value := (rvs (List.replicate 16 (⟨#[]⟩, 0) ++ hws)).toArray
def libZ : Array Value := (rvs (List.replicate 40 (⟨#[]⟩, 0))).toArray
def wsV : Array Value := (hws.map fun p => Value.string p.1).toArray
def wsZ : Array Value := (List.replicate 24 (Value.string ⟨#[]⟩)).toArray
theorem wpList_one {P : Program} {ops : Array Oper} {Q : Exit → Act → World → Prop} {rest : List Oper} {a : Act} {w : World} {o : Oper} (hg : o.guard = none)
    (h : o.upon P a (wpList P ops Q rest) Q ((execOp a.eval o).run P w)) : wpList P ops Q (o :: rest) a w := by
  unfold wpList
  rw [if_pos (by simp [Region.wanted, hg])]
  exact Or.inl h
theorem zero_of_info {t : TypeId} {cs : Array Value} {n : Nat} (h : (Try.prog.info? t).map (fun i => (i.zero, i.size)) = some (some (.agg cs), n)) :
    (∀ w, (zeroValue t).run Try.prog w = .ok (.agg cs) w) ∧ (Try.prog.info? t).map (·.size) = some n := by
  cases hi : Try.prog.info? t with
  | none => rw [hi] at h; cases h
  | some i =>
    rw [hi] at h
    simp only [Option.map_some, Option.some.injEq, Prod.mk.injEq] at h
    refine ⟨fun w => ?_, by simp [h.2]⟩
    simp [zeroValue, typeInfo, hi, h.1, go_sem]
theorem upon_value_of {P : Program} {o : Oper} {a : Act} {next : Act → World → Prop} {Q : Exit → Act → World → Prop} {w : World} (v : Value) (w' : World)
    (hr : (execOp a.eval o).run P w = .ok (.value v) w') (h : next (a.put o.dst v) w') : o.upon P a next Q ((execOp a.eval o).run P w) := by
  rw [hr]; exact h
theorem upon_skip_of {P : Program} {o : Oper} {a : Act} {next : Act → World → Prop} {Q : Exit → Act → World → Prop} {w : World} (w' : World)
    (hr : (execOp a.eval o).run P w = .ok .skip w') (h : next (a.put o.dst undef) w') : o.upon P a next Q ((execOp a.eval o).run P w) := by
  rw [hr]; exact h
theorem wp_act_eq {P : Program} {c : Code} {Q : Exit → Act → World → Prop} {a : Act} {w : World} (a' : Act) (h : a = a') (hw : c.wp P Q a' w) : c.wp P Q a w := by
  rw [h]; exact hw
theorem store_new (o : Oper) (t : Nat) (p q : Operand) (ho : o.op = .store t p q) (a : Act) (w : World) (cs cs' : Array Value) (h0 : a.eval p = .pointer (some ⟨w.heap.size, 0, none⟩)) (h1 : a.eval q = .agg cs')
    (hi : (Try.prog.info? t).map (·.size) = some cs'.size) (hs : cs.size = cs'.size) (h2 : cs'.all (·.oneCell') = true) :
    (execOp a.eval o).run Try.prog (w.alloc (.cells cs t)) = .ok .skip (w.alloc (.cells cs' t)) := by
  have := run_storeAt_new (P := Try.prog) w t cs cs' hi hs h2
  simp only [execOp, ho, h0, h1, Sem.run_bind, this, Result.andThen, Sem.run_pure]
theorem alloc_new (o : Oper) (t : Nat) (ho : o.op = .alloc t) (a : Act) (w : World) (cs : Array Value) (hz : ∀ w, (zeroValue t).run Try.prog w = .ok (.agg cs) w) :
    (execOp a.eval o).run Try.prog w = .ok (.value (.pointer (some ⟨w.heap.size, 0, none⟩))) (w.alloc (.cells cs t)) := by
  simp [execOp, ho, Instr.alloc, hz, Result.andThen, go_sem]
theorem infoLi : (Try.prog.info? 34).map (fun i => (i.zero, i.size)) = some (some (.agg libZ), 80) := by kernel_rfl
theorem infoWs : (Try.prog.info? 40).map (fun i => (i.zero, i.size)) = some (some (.agg wsZ), 24) := by kernel_rfl
theorem libV_all : libV.all (·.oneCell') = true := by kernel_rfl
theorem libV_size : libV.size = 80 := by kernel_rfl
theorem libZ_size : libZ.size = 80 := by kernel_rfl
theorem wsV_all : wsV.all (·.oneCell') = true := by kernel_rfl
theorem wsV_size : wsV.size = 24 := by kernel_rfl
theorem wsZ_size : wsZ.size = 24 := by kernel_rfl
theorem lib_und : Try.prog.underlying 34 = some (.array 40 33) := by kernel_rfl
theorem lib_res : Try.f12.results = #[ResultVar.cell 0 34] := by kernel_rfl
theorem libV_get (k : Nat) : 16 ≤ k → k ≤ 39 → libV[k * 2]? = some (.string (hwd k)) ∧ libV[k * 2 + 1]? = some (.int .i64 (hct k)) := fun h1 h2 => by
  have : k = 16 ∨ k = 17 ∨ k = 18 ∨ k = 19 ∨ k = 20 ∨ k = 21 ∨ k = 22 ∨ k = 23 ∨ k = 24 ∨ k = 25 ∨ k = 26 ∨ k = 27 ∨ k = 28 ∨ k = 29 ∨ k = 30 ∨ k = 31 ∨ k = 32 ∨ k = 33 ∨ k = 34 ∨ k = 35 ∨ k = 36 ∨ k = 37 ∨ k = 38 ∨ k = 39 := by omega
  rcases this with rfl | rfl | rfl | rfl | rfl | rfl | rfl | rfl | rfl | rfl | rfl | rfl | rfl | rfl | rfl | rfl | rfl | rfl | rfl | rfl | rfl | rfl | rfl | rfl
  all_goals (refine ⟨?_, ?_⟩ <;> kernel_rfl)
theorem wsV_get (k : Nat) : 16 ≤ k → k ≤ 39 → wsV[k - 16]? = some (.string (hwd k)) := fun h1 h2 => by
  have : k = 16 ∨ k = 17 ∨ k = 18 ∨ k = 19 ∨ k = 20 ∨ k = 21 ∨ k = 22 ∨ k = 23 ∨ k = 24 ∨ k = 25 ∨ k = 26 ∨ k = 27 ∨ k = 28 ∨ k = 29 ∨ k = 30 ∨ k = 31 ∨ k = 32 ∨ k = 33 ∨ k = 34 ∨ k = 35 ∨ k = 36 ∨ k = 37 ∨ k = 38 ∨ k = 39 := by omega
  rcases this with rfl | rfl | rfl | rfl | rfl | rfl | rfl | rfl | rfl | rfl | rfl | rfl | rfl | rfl | rfl | rfl | rfl | rfl | rfl | rfl | rfl | rfl | rfl | rfl
  all_goals (show _ = _; kernel_rfl)
theorem hwd_out (n : Nat) (h : n < 16 ∨ 39 < n) : hwd n = ⟨#[]⟩ := by
  unfold hwd
  rcases h with h | h
  · rw [if_pos h]
  · rw [if_neg (by omega)]
    have : hws.length = 24 := rfl
    rw [List.getD_eq_getElem?_getD, List.getElem?_eq_none (by omega)]
    rfl
end Go.Proofs.Ytfeiigfcihdimaa
