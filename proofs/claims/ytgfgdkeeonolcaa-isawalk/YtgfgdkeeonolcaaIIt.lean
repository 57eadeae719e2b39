import Derived.RangeFuncNested
import Derived.RangeFuncBound
import Derived.RangeFuncCalls
import Derived.RangeFuncLeaves
import Derived.OwnWalkIn
import Derived.TacticsInMore
import Derived.LoopNIn
import Derived.LoopIn
import Derived.Test.YtgfgdkeeonolcaaIRd
namespace Go.Proofs.Ytgfgdkeeonolcaa
open Go.RowKit
set_option maxRecDepth 100000
attribute [local go_sem] Oper.semAt_some

abbrev It := Nat × Rd
def rdK (zs : List Int) (k p : Nat) : Rd := if k < 16384 then rdV (zs.drop p) else (0, 0, 0, 73)
def rds (zs : List Int) : Nat → Nat → Nat → List It
  | 0, _, _ => []
  | f + 1, k, p => if p < zs.length then (p, rdK zs k p) :: (if (rdK zs k p).2.2.2 = 0 then rds zs f (k + 1) (p + (rdK zs k p).2.2.1) else []) else []
def items (zs : List Int) : List It := rds zs zs.length 0 0
theorem rds_step (zs : List Int) (f k p : Nat) (h : p < zs.length) : rds zs (f + 1) k p = (p, rdK zs k p) :: (if (rdK zs k p).2.2.2 = 0 then rds zs f (k + 1) (p + (rdK zs k p).2.2.1) else []) := by
  rw [rds, if_pos h]
theorem rds_end (zs : List Int) (f k p : Nat) (h : ¬ p < zs.length) : rds zs f k p = [] := by
  cases f with
  | zero => rfl
  | succ f => rw [rds, if_neg h]
theorem rdV_ok (zs : List Int) (h : (rdV zs).2.2.2 = 0) : (rdV zs).2.2.1 = 1 + opWi (zs.getD 0 0).toNat ∧ 1 + opWi (zs.getD 0 0).toNat ≤ zs.length ∧ (rdV zs).1 = (zs.getD 0 0).toNat ∧ isOp (zs.getD 0 0).toNat = true ∧ (rdV zs).2.1 = (num ((zs.drop 1).take (opWi (zs.getD 0 0).toNat))).toNat ∧ (rdV zs).2.1 ≤ opMo (zs.getD 0 0).toNat := by
  unfold rdV at h ⊢
  split at h
  · cases h
  · split at h
    · cases h
    · split at h
      · cases h
      · rename_i h1 h2 h3
        rw [if_neg h1, if_neg h2, if_neg h3]
        refine ⟨rfl, by omega, rfl, by simpa using h1, rfl, by simp only []; omega⟩
theorem rdK_ok (zs : List Int) (k p : Nat) (h : (rdK zs k p).2.2.2 = 0) : k < 16384 ∧ rdK zs k p = rdV (zs.drop p) := by
  unfold rdK at h ⊢
  split at h
  · rename_i h1; rw [if_pos h1]; exact ⟨h1, rfl⟩
  · cases h
theorem rdK_size (zs : List Int) (k p : Nat) (h : (rdK zs k p).2.2.2 = 0) : 1 ≤ (rdK zs k p).2.2.1 ∧ (rdK zs k p).2.2.1 ≤ 5 ∧ p + (rdK zs k p).2.2.1 ≤ zs.length := by
  obtain ⟨_, e⟩ := rdK_ok zs k p h
  rw [e] at h ⊢
  obtain ⟨h1, h2, _⟩ := rdV_ok _ h
  have := opWi_le ((zs.drop p).getD 0 0).toNat
  rw [List.length_drop] at h2
  omega
abbrev encI2 (x : It) : Array Value := #[.int .i64 x.1, .agg (rdA x.2)]
/-- what a round that goes on keeps -/
def Kd (Bs : Nat) (ao : Option Addr) (cap : Nat) (zs : List Int) (B0 : Nat) (W W' : World) : Prop :=
  (Boxed W Bs 22 (.slice ao zs.length cap) → Boxed W' Bs 22 (.slice ao zs.length cap)) ∧ (Reads W ao zs B0 → Reads W' ao zs B0) ∧ (∀ (b : Nat) (cs : Array Value), W.heap[b]? = some (Obj.cells cs 48) → W'.heap[b]? = some (Obj.cells cs 48))
theorem Kd_t {Bs : Nat} {ao : Option Addr} {cap : Nat} {zs : List Int} {B0 : Nat} {A B C : World} (h : Kd Bs ao cap zs B0 A B) (k : Kd Bs ao cap zs B0 B C) : Kd Bs ao cap zs B0 A C :=
  ⟨fun x => k.1 (h.1 x), fun x => k.2.1 (h.2.1 x), fun b cs x => k.2.2 b cs (h.2.2 b cs x)⟩
theorem heap_put {W : World} {l b : Nat} {o o' : Obj} {cs : Array Value} {t : Nat} {fr : Nat × Nat} (h : W.heap[l]? = some o) (hc : o.isCells = false) (hb : W.heap[b]? = some (.cells cs t fr)) : (W.putObj l o').heap[b]? = some (.cells cs t fr) := by
  refine ((grownBy_putObj' W l o').block b (Array.getElem?_eq_some_iff.1 hb).1 ?_).trans hb
  intro e
  cases e
  rw [hb] at h
  cases h
  cases hc
theorem Kd_b {Bs : Nat} {ao : Option Addr} {cap : Nat} {zs : List Int} {B0 : Nat} {w : World} (W : World) (l : Nat) (o o' : Obj) (_ : w.heap.size ≤ l) (h : W.heap[l]? = some o) (hc : o.isCells = false) (_ : o.isWalk = false) : Kd Bs ao cap zs B0 W (W.putObj l o') := by
  refine ⟨fun x => heap_put h hc x, fun x hp => ?_, fun b cs x => heap_put h hc x⟩
  obtain ⟨b, off, e, hb, hx⟩ := x hp
  refine ⟨b, off, e, hb, fun j hj => ?_⟩
  refine (World.cell?_of_block ((grownBy_putObj' W l o').block b (World.block_lt_of_cell? W _ (hx j hj)) ?_)).trans (hx j hj)
  intro e2
  cases e2
  have := hx j hj
  cases o <;> simp [World.cell?, h, Obj.isCells] at this hc
theorem wpListIn_store_row {F : Fence} {n : Nat} {P : Program} {ops : Array Oper} {Q : Exit → Act → World → Prop} {rest : List Oper} {o : Oper} {a : Act} {w : World} (hg : o.guard = none) (t : TypeId) (p q : Operand) (ho : o.op = .store t p q)
    (b : Nat) (cs cs' : Array Value) (h0 : a.eval p = .pointer (some ⟨b, 0, none⟩)) (h1 : a.eval q = .agg cs') (hb : w.heap[b]? = some (.cells cs t)) (hi : (P.info? t).map (·.size) = some cs'.size) (hs : cs.size = cs'.size) (h2 : cs'.all (·.oneCell') = true)
    (h : wpListIn F n P ops Q rest (a.put o.dst undef) (w.setRow b cs')) : wpListIn F n P ops Q (o :: rest) a w := by
  refine wpListIn_plain hg fun _ hK => ?_
  have := run_storeVar_row (P := P) w b t t cs cs' hb hi hs h2
  have hr : (execOp a.eval o).run P w = .ok .skip (w.setRow b cs') := by
    simp only [execOp, ho, h0, h1, Instr.storeAt, Instr.sureAddr, Sem.run_bind, Sem.run_pure, Result.andThen, this]
  refine ⟨fun f hf => ?_, ?_⟩
  · simp [Oper.about, ho] at hf
  · have hs : (o.semAt F.round a.eval).run P w = .ok .skip (w.setRow b cs') := by
      rw [← hr]; congr 1; simp [Oper.semAt, ho, execOp]
    rw [hs]
    exact hK _ _ h
set_option maxHeartbeats 1000000 in
theorem readings_in (n : Nat) (ao : Option Addr) (len cap : Nat) (w : World) :
    CallsIn Fence.wide n Try.prog 14 #[.slice ao len cap] w fun e w' => e = .returned (.func (.func 16) #[] #[.pointer (some ⟨w.heap.size, 0, none⟩)]) ∧ w' = w.alloc (.cells #[.slice ao len cap] 22) := by
  refine callsIn_of_wp Try.func14 rfl trivial ?_ rfl
  simp only [Try.ntmps14, List.size_toArray, List.length_cons, List.length_nil, Nat.reduceAdd, Nat.reduceSub, Array.replicate_succ, Array.replicate_zero, List.push_toArray, List.append_toArray, List.nil_append, List.cons_append]
  gi_wp2
  go_ret
  exact ⟨rfl, rfl⟩
end Go.Proofs.Ytgfgdkeeonolcaa
