import Derived.Test.YtldeodnlppjbcaaKLt
import Derived.Laws.CopyOwn
import Derived.Deep.WholeRow
namespace Go.Proofs.Ytldeodnlppjbcaa
open Go.RowKit
set_option maxRecDepth 100000

theorem clone_any (t : ByteArray) (w : World) (ht : t.size ≤ 524288) :
    Calls Try.prog 45 #[.string t] w fun e w' => e = .returned (.string t) ∧ Below w.heap.size w w' := by
  have h := fun w => Try.stringslite_Clone t w (by omega)
  go_enter Try.func45, Try.ntmps45
  go_wp2_with (go_at_call 58; refine (h _).mono ?_; rintro e wq ⟨rfl, hq⟩)
  go_ret
  exact ⟨rfl, hq⟩
theorem wpList_store_row {P : Program} {ops : Array Oper} {Q : Exit → Act → World → Prop} {rest : List Oper} {o : Oper} {a : Act} {w : World} (hg : o.guard = none) (t : TypeId) (p q : Operand) (ho : o.op = .store t p q)
    (b : Nat) (cs cs' : Array Value) (h0 : a.eval p = .pointer (some ⟨b, 0, none⟩)) (h1 : a.eval q = .agg cs') (hb : w.heap[b]? = some (.cells cs t)) (hi : (P.info? t).map (·.size) = some cs'.size) (hs : cs.size = cs'.size) (h2 : cs'.all (·.oneCell') = true)
    (h : wpList P ops Q rest (a.put o.dst undef) (w.setRow b cs')) : wpList P ops Q (o :: rest) a w := by
  refine wpList_plain hg fun _ hK => ?_
  have := run_storeVar_row (P := P) w b t t cs cs' hb hi hs h2
  unfold Oper.wp
  have hr : (execOp a.eval o).run P w = .ok .skip (w.setRow b cs') := by
    simp only [execOp, ho, h0, h1, Instr.storeAt, Instr.sureAddr, Sem.run_bind, Sem.run_pure, Result.andThen, this]
  rw [hr]
  exact hK _ _ h
theorem infoTk : (Try.prog.info? 36).map (·.size) = some 3 := by kernel_rfl
theorem undTk : ∃ fs, Try.prog.underlying 36 = some (.struct fs) := by
  have h : (match Try.prog.underlying 36 with | some (.struct _) => true | _ => false) = true := by kernel_rfl
  split at h
  · exact ⟨_, by assumption⟩
  · cases h
abbrev tkA (k a : Nat) (T : ByteArray) : Array Value := #[.int .u8 k, .int .i64 a, .string T]
theorem tk_all (k a : Nat) (T : ByteArray) : (tkA k a T).all (·.oneCell') = true := by kernel_rfl
theorem tkRes (W : World) (b : Nat) (cs : Array Value) (h3 : cs.size = 3) (hb : W.heap[b]? = some (.cells cs 36)) (tmps : Array Value) (h2 : tmps.getD 8 undef = .pointer (some ⟨b, 0, none⟩)) :
    (results Try.f31 tmps).run Try.prog W = .ok (.agg cs) W := by
  obtain ⟨fs, hu⟩ := undTk
  exact results_cell_row (p := 8) (ty := 36) (by kernel_rfl) tmps W b 36 cs (0, 0) _ h2 hb hu rfl (by rw [infoTk, h3])
theorem hpT {w W : World} {o : Obj} (h : Below (w.alloc o).heap.size (w.alloc o) W) : W.heap[w.heap.size]? = some o := by
  rw [h.block w.heap.size (by simp)]
  exact heap_alloc_last w o
set_option maxHeartbeats 1000000 in
theorem tokenOf_any (s : ByteArray) (a b k : Nat) (w : World) (hab : a ≤ b) (hb : b ≤ s.size) (hs : s.size ≤ 524288) :
    Calls Try.prog 31 #[.string s, .int .i64 a, .int .i64 b, .int .u8 k] w fun e w' => e = .returned (.agg #[.int .u8 k, .int .i64 a, .string (s.extract a b)]) ∧ Below w.heap.size w w' := by
  have h1 : (a : Int) ≤ (b : Int) := by omega
  have h2 : (b : Int) ≤ (s.size : Int) := by omega
  have hC := fun w => clone_any (s.extract a b) w (by simp; omega)
  obtain ⟨T, hT⟩ : ∃ T, s.extract a b = T := ⟨_, rfl⟩
  rw [hT] at hC ⊢
  go_enter Try.func31, Try.ntmps31
  go_wp2_with (first
    | (go_at_call 45; with_reducible refine (hC _).mono ?_; rintro e wq ⟨rfl, hq⟩)
    | (refine wpList_store_row rfl _ _ _ rfl w.heap.size _ (tkA k a T) rfl rfl (hpT hq) (by rw [infoTk]; rfl) rfl (tk_all _ _ _) ?_))
  exact bodyPost_ret (tkRes _ w.heap.size (tkA k a T) rfl (setRow_heap _ _ _ _ _ _ (hpT hq)) _ rfl) rfl ⟨rfl, below_setRow (((Below.refl _ _).alloc (Nat.le_refl _) _).trans (hq.mono (by simp))) (Nat.le_refl _) _⟩
end Go.Proofs.Ytldeodnlppjbcaa
