import Derived.Test.YtonmoidalkcmoaaCZLk
import Derived.Deep.RegionLaw
namespace Go.Proofs.Ytonmoidalkcmoaa
set_option maxHeartbeats 4000000
open Go.RowKit Go.WideShapes
set_option maxRecDepth 100000
/-- a store of a whole row, where an order is drawn -/
theorem storeZ_wp {P : Program} {o : Oper} {a : Act} {w : World} {K : Act → World → Prop} {Q : Exit → Act → World → Prop} (t : TypeId) (p q : Operand) (ho : o.op = .store t p q)
    (b : Nat) (cs cs' : Array Value) (h0 : a.eval p = .pointer (some ⟨b, 0, none⟩)) (h1 : a.eval q = .agg cs') (hb : w.heap[b]? = some (.cells cs t)) (hi : (P.info? t).map (·.size) = some cs'.size) (hs : cs.size = cs'.size) (h2 : cs'.all (·.oneCell') = true)
    (h : K (a.put o.dst undef) (w.setRow b cs')) : Oper.wp P o a w K Q := by
  have := run_storeVar_row (P := P) w b t t cs cs' hb hi hs h2
  unfold Oper.wp
  have hr : (execOp a.eval o).run P w = .ok .skip (w.setRow b cs') := by
    simp only [execOp, ho, h0, h1, Instr.storeAt, Instr.sureAddr, Sem.run_bind, Sem.run_pure, Result.andThen, this]
  rw [hr]
  exact h
def lkBin : Lk := fun p f => ({ f with op := p.1 }, decide (39 ≤ p.1) && decide (p.1 ≤ 57) && decide (opTa p.1 = 2))
/-- what the looks' boxes hold: the instruction, the thing, a thing to be answered -/
structure Bx (w V : World) (p : Nat × Nat) (f : Fz) : Prop where
  bw : Below w.heap.size w V
  c0 : V.heap[w.heap.size]? = some (.cells #[.int .u8 (p.1 : Int), .int .u32 (p.2 : Int)] 36)
  c1 : V.heap[w.heap.size + 1]? = some (.cells (fzA f) 30)
  c2 : V.heap[w.heap.size + 1 + 1]? = some (.cells (fzA fz0) 30)
theorem Bx.new (w : World) (p : Nat × Nat) (f : Fz) : Bx w (((w.alloc (.cells #[.int .u8 (p.1 : Int), .int .u32 (p.2 : Int)] 36)).alloc (.cells (fzA f) 30)).alloc (.cells (fzA fz0) 30)) p f := by
  refine ⟨zbel3 _ _ _ _, ?_, ?_, zheap3 _ _ _ _⟩
  · rw [Below.heap_alloc _ _ _ (by simp; omega), Below.heap_alloc _ _ _ (by simp)]; exact heap_alloc_last _ _
  · rw [Below.heap_alloc _ _ _ (by simp)]
    have := heap_alloc_last (w.alloc (.cells #[.int .u8 (p.1 : Int), .int .u32 (p.2 : Int)] 36)) (.cells (fzA f) 30)
    simpa using this
theorem Bx.lt {w V : World} {p : Nat × Nat} {f : Fz} (h : Bx w V p f) : w.heap.size + 1 + 1 < V.heap.size := (Array.getElem?_eq_some_iff.1 h.c2).1
theorem Bx.next {w V V' : World} {p : Nat × Nat} {f : Fz} (h : Bx w V p f) (hb : Below V.heap.size V V') : Bx w V' p f := by
  have hl := h.lt
  exact ⟨h.bw.trans (hb.mono (by omega)), (hb.block _ (by omega)).trans h.c0, (hb.block _ (by omega)).trans h.c1, (hb.block _ (by omega)).trans h.c2⟩
theorem Bx.zero {w V : World} {p : Nat × Nat} {f : Fz} (h : Bx w V p f) : V.cell? ⟨w.heap.size + 1 + 1, 0, none⟩ = some (.int .u32 0) ∧ V.cell? ⟨w.heap.size + 1 + 1, 1, none⟩ = some (.int .u32 0) ∧ V.cell? ⟨w.heap.size + 1 + 1, 2, none⟩ = some (.int .u8 0) ∧ V.cell? ⟨w.heap.size + 1 + 1, 3, none⟩ = some (.int .u8 0) ∧ V.cell? ⟨w.heap.size + 1 + 1, 4, none⟩ = some (.int .u32 0) ∧ V.cell? ⟨w.heap.size + 1 + 1, 5, none⟩ = some (.int .u32 0) ∧ V.frozen? ⟨w.heap.size + 1 + 1, 0, none⟩ = false ∧ V.frozen? ⟨w.heap.size + 1 + 1, 1, none⟩ = false ∧ V.frozen? ⟨w.heap.size + 1 + 1, 2, none⟩ = false ∧ V.frozen? ⟨w.heap.size + 1 + 1, 3, none⟩ = false ∧ V.frozen? ⟨w.heap.size + 1 + 1, 4, none⟩ = false ∧ V.frozen? ⟨w.heap.size + 1 + 1, 5, none⟩ = false :=
  ⟨obj_cell h.c2 0, obj_cell h.c2 1, obj_cell h.c2 2, obj_cell h.c2 3, obj_cell h.c2 4, obj_cell h.c2 5, obj_frozen h.c2 0, obj_frozen h.c2 1, obj_frozen h.c2 2, obj_frozen h.c2 3, obj_frozen h.c2 4, obj_frozen h.c2 5⟩
theorem set6 {b t : Nat} {z0 z1 z2 z3 z4 z5 a0 a1 a2 a3 a4 a5 : Value} {U0 U1 U2 U3 U4 U5 U6 : World} (h : U0.heap[b]? = some (.cells #[z0, z1, z2, z3, z4, z5] t))
    (e1 : U1 = U0.setCell ⟨b, 0, none⟩ a0) (e2 : U2 = U1.setCell ⟨b, 1, none⟩ a1) (e3 : U3 = U2.setCell ⟨b, 2, none⟩ a2) (e4 : U4 = U3.setCell ⟨b, 3, none⟩ a3) (e5 : U5 = U4.setCell ⟨b, 4, none⟩ a4) (e6 : U6 = U5.setCell ⟨b, 5, none⟩ a5) :
    U6.heap[b]? = some (.cells #[a0, a1, a2, a3, a4, a5] t) ∧ Kp (fun i => i = b) U0 U6 := by
  have h1 : U1.heap[b]? = some (.cells #[a0, z1, z2, z3, z4, z5] t) := by rw [e1]; exact heap_setCell_same U0 b 0 _ t a0 h
  have h2 : U2.heap[b]? = some (.cells #[a0, a1, z2, z3, z4, z5] t) := by rw [e2]; exact heap_setCell_same U1 b 1 _ t a1 h1
  have h3 : U3.heap[b]? = some (.cells #[a0, a1, a2, z3, z4, z5] t) := by rw [e3]; exact heap_setCell_same U2 b 2 _ t a2 h2
  have h4 : U4.heap[b]? = some (.cells #[a0, a1, a2, a3, z4, z5] t) := by rw [e4]; exact heap_setCell_same U3 b 3 _ t a3 h3
  have h5 : U5.heap[b]? = some (.cells #[a0, a1, a2, a3, a4, z5] t) := by rw [e5]; exact heap_setCell_same U4 b 4 _ t a4 h4
  have h6 : U6.heap[b]? = some (.cells #[a0, a1, a2, a3, a4, a5] t) := by rw [e6]; exact heap_setCell_same U5 b 5 _ t a5 h5
  have k : ∀ (U U' : World) (j : Nat) (v : Value), U' = U.setCell ⟨b, j, none⟩ v → Kp (fun i => i = b) U U' := fun U U' j v e => by rw [e]; exact Kp.setCell U _ v rfl
  exact ⟨h6, ((((((k _ _ _ _ e1).trans (k _ _ _ _ e2) (fun _ _ e => e)).trans (k _ _ _ _ e3) (fun _ _ e => e)).trans (k _ _ _ _ e4) (fun _ _ e => e)).trans (k _ _ _ _ e5) (fun _ _ e => e)).trans (k _ _ _ _ e6) (fun _ _ e => e))⟩
theorem Bx.six {w V U1 U2 U3 U4 U5 U6 : World} {p : Nat × Nat} {f : Fz} {a0 a1 a2 a3 a4 a5 : Value} (h : Bx w V p f) (e1 : U1 = V.setCell ⟨w.heap.size + 1 + 1, 0, none⟩ a0) (e2 : U2 = U1.setCell ⟨w.heap.size + 1 + 1, 1, none⟩ a1) (e3 : U3 = U2.setCell ⟨w.heap.size + 1 + 1, 2, none⟩ a2) (e4 : U4 = U3.setCell ⟨w.heap.size + 1 + 1, 3, none⟩ a3) (e5 : U5 = U4.setCell ⟨w.heap.size + 1 + 1, 4, none⟩ a4) (e6 : U6 = U5.setCell ⟨w.heap.size + 1 + 1, 5, none⟩ a5) :
    U6.drew.heap[w.heap.size + 1 + 1]? = some (.cells #[a0, a1, a2, a3, a4, a5] 30) ∧ Below w.heap.size w U6.drew := by
  obtain ⟨h6, k⟩ := set6 h.c2 e1 e2 e3 e4 e5 e6
  have hl := h.lt
  exact ⟨h6, Below.drew (h.bw.trans (k.below (by omega) (fun i e => by omega)))⟩
theorem Bx.cells {w V : World} {p : Nat × Nat} {f : Fz} (h : Bx w V p f) : V.cell? ⟨w.heap.size, 0, none⟩ = some (.int .u8 (p.1 : Int)) ∧ V.cell? ⟨w.heap.size, 1, none⟩ = some (.int .u32 (p.2 : Int)) ∧ V.cell? ⟨w.heap.size + 1, 0, none⟩ = some (.int .u32 (f.at_ : Int)) ∧ V.cell? ⟨w.heap.size + 1, 1, none⟩ = some (.int .u32 (f.len : Int)) ∧ V.cell? ⟨w.heap.size + 1, 2, none⟩ = some (.int .u8 (f.kind : Int)) ∧ V.cell? ⟨w.heap.size + 1, 3, none⟩ = some (.int .u8 (f.op : Int)) ∧ V.cell? ⟨w.heap.size + 1, 4, none⟩ = some (.int .u32 (f.a : Int)) ∧ V.cell? ⟨w.heap.size + 1, 5, none⟩ = some (.int .u32 (f.b : Int)) :=
  ⟨obj_cell h.c0 0, obj_cell h.c0 1, obj_cell h.c1 0, obj_cell h.c1 1, obj_cell h.c1 2, obj_cell h.c1 3, obj_cell h.c1 4, obj_cell h.c1 5⟩
theorem isBinary_any (p : Nat × Nat) (f : Fz) (w : World) (hp : p.1 < 256) :
    Calls Try.prog 46 #[.agg #[.int .u8 (p.1 : Int), .int .u32 (p.2 : Int)], .agg (fzA f)] w fun e w' => e = .returned (.tuple #[.agg (fzA (lkBin p f).1), .bool (lkBin p f).2]) ∧ Below w.heap.size w w' := by
  obtain ⟨op, arg⟩ := p
  obtain ⟨f0, f1, f2, f3, f4, f5⟩ := f
  have HI := dhid (fun w' => info_any op w' hp)
  have HX := dhid (Bx.new w ⟨op, arg⟩ ⟨f0, f1, f2, op, f4, f5⟩  )
  simp only [fzA, fz0, lkBin] at HX ⊢
  have hta := ta_small op hp
  generalize hT : opTa op = ta at *
  by_cases h1 : 39 ≤ op
  · have d1 : decide ((39 : Int) ≤ (op : Int)) = true := decide_eq_true (by omega)
    have d1' : (39 : Int) ≤ (op : Int) := by omega
    rw [show decide (39 ≤ op) = true from decide_eq_true h1, Bool.true_and]
    by_cases h2 : op ≤ 57
    · have d2 : decide ((op : Int) ≤ (57 : Int)) = true := decide_eq_true (by omega)
      have d2' : (op : Int) ≤ (57 : Int) := by omega
      have d2n : decide (op ≤ 57) = true := decide_eq_true h2
      rw [d2n, Bool.true_and]
      go_enter Try.func46, Try.ntmps46
      go_wp2_with (go_at_call 15; with_reducible refine (HI.out _).mono ?_; rintro e w1 ⟨rfl, hb1⟩; have X1 := dhid (HX.out.next hb1); clear hb1)
      have hl1 := X1.out.lt
      obtain ⟨W0, hW0⟩ : ∃ W0, (w1.alloc (.cells #[.string (opWd op), .int .i64 (opWi op), .int .u32 (opMo op), .int .i64 ta, .int .i64 (opGi op), .int .u8 (opKi op)] 55)) = W0 := ⟨_, rfl⟩
      have X2 : Hid (Bx w W0 ⟨op, arg⟩ ⟨f0, f1, f2, op, f4, f5⟩) := dhid (hW0 ▸ (X1.out.next ((Below.refl _ _).alloc (Nat.le_refl _) _)))
      have q2 : W0.cell? ⟨w1.heap.size, 3, none⟩ = some (.int .i64 (ta : Int)) := by
        rw [← hW0]
        exact obj_cell (heap_alloc_last w1 _) 3
      have C2 : Hid ((fun V => V.cell? ⟨w.heap.size, 0, none⟩ = some (.int .u8 (op : Int)) ∧ V.cell? ⟨w.heap.size + 1, 0, none⟩ = some (.int .u32 (f0 : Int)) ∧ V.cell? ⟨w.heap.size + 1, 1, none⟩ = some (.int .u32 (f1 : Int)) ∧ V.cell? ⟨w.heap.size + 1, 2, none⟩ = some (.int .u8 (f2 : Int)) ∧ V.cell? ⟨w.heap.size + 1, 3, none⟩ = some (.int .u8 (op : Int)) ∧ V.cell? ⟨w.heap.size + 1, 4, none⟩ = some (.int .u32 (f4 : Int)) ∧ V.cell? ⟨w.heap.size + 1, 5, none⟩ = some (.int .u32 (f5 : Int)) ∧ V.cell? ⟨w1.heap.size, 3, none⟩ = some (.int .i64 (ta : Int))) W0) := dhid ⟨X2.out.cells.1, X2.out.cells.2.2.1, X2.out.cells.2.2.2.1, X2.out.cells.2.2.2.2.1, X2.out.cells.2.2.2.2.2.1, X2.out.cells.2.2.2.2.2.2.1, X2.out.cells.2.2.2.2.2.2.2, q2⟩
      rw [hW0]
      obtain ⟨a1, a2, a3, a4, a5, a6, a7, a8⟩ := C2.out
      obtain ⟨z0, z1, z2, z3, z4, z5, y0, y1, y2, y3, y4, y5⟩ := X2.out.zero
      clear hW0 q2 C2 HI HX
      go_region
      all_goals go_wp2_with fail
      all_goals exact bodyPost_ret (resFzB (p := 4) (u := 5) (by kernel_rfl) _ _ (w.heap.size + 1 + 1) _ rfl (X2.out.six rfl rfl rfl rfl rfl rfl).1 _ rfl rfl) rfl ⟨(by first | rfl | exact congrArg (fun b => Ending.returned (Value.tuple #[Value.agg _, Value.bool b])) (zbeq _ _)), (X2.out.six rfl rfl rfl rfl rfl rfl).2⟩
    · have d2 : decide ((op : Int) ≤ (57 : Int)) = false := decide_eq_false (by omega)
      have d2' : ¬ (op : Int) ≤ (57 : Int) := by omega
      have d2n : decide (op ≤ 57) = false := decide_eq_false h2
      rw [d2n, Bool.false_and]
      go_enter Try.func46, Try.ntmps46
      go_wp2_with (go_at_call 15; with_reducible refine (HI.out _).mono ?_; rintro e w1 ⟨rfl, hb1⟩; have X1 := dhid (HX.out.next hb1); clear hb1)
      have hl1 := X1.out.lt
      obtain ⟨W0, hW0⟩ : ∃ W0, (w1.alloc (.cells #[.string (opWd op), .int .i64 (opWi op), .int .u32 (opMo op), .int .i64 ta, .int .i64 (opGi op), .int .u8 (opKi op)] 55)) = W0 := ⟨_, rfl⟩
      have X2 : Hid (Bx w W0 ⟨op, arg⟩ ⟨f0, f1, f2, op, f4, f5⟩) := dhid (hW0 ▸ (X1.out.next ((Below.refl _ _).alloc (Nat.le_refl _) _)))
      have q2 : W0.cell? ⟨w1.heap.size, 3, none⟩ = some (.int .i64 (ta : Int)) := by
        rw [← hW0]
        exact obj_cell (heap_alloc_last w1 _) 3
      have C2 : Hid ((fun V => V.cell? ⟨w.heap.size, 0, none⟩ = some (.int .u8 (op : Int)) ∧ V.cell? ⟨w.heap.size + 1, 0, none⟩ = some (.int .u32 (f0 : Int)) ∧ V.cell? ⟨w.heap.size + 1, 1, none⟩ = some (.int .u32 (f1 : Int)) ∧ V.cell? ⟨w.heap.size + 1, 2, none⟩ = some (.int .u8 (f2 : Int)) ∧ V.cell? ⟨w.heap.size + 1, 3, none⟩ = some (.int .u8 (op : Int)) ∧ V.cell? ⟨w.heap.size + 1, 4, none⟩ = some (.int .u32 (f4 : Int)) ∧ V.cell? ⟨w.heap.size + 1, 5, none⟩ = some (.int .u32 (f5 : Int)) ∧ V.cell? ⟨w1.heap.size, 3, none⟩ = some (.int .i64 (ta : Int))) W0) := dhid ⟨X2.out.cells.1, X2.out.cells.2.2.1, X2.out.cells.2.2.2.1, X2.out.cells.2.2.2.2.1, X2.out.cells.2.2.2.2.2.1, X2.out.cells.2.2.2.2.2.2.1, X2.out.cells.2.2.2.2.2.2.2, q2⟩
      rw [hW0]
      obtain ⟨a1, a2, a3, a4, a5, a6, a7, a8⟩ := C2.out
      obtain ⟨z0, z1, z2, z3, z4, z5, y0, y1, y2, y3, y4, y5⟩ := X2.out.zero
      clear hW0 q2 C2 HI HX
      go_region
      all_goals go_wp2_with fail
      all_goals exact bodyPost_ret (resFzB (p := 4) (u := 5) (by kernel_rfl) _ _ (w.heap.size + 1 + 1) _ rfl (X2.out.six rfl rfl rfl rfl rfl rfl).1 _ rfl rfl) rfl ⟨rfl, (X2.out.six rfl rfl rfl rfl rfl rfl).2⟩
  · have d1 : decide ((39 : Int) ≤ (op : Int)) = false := decide_eq_false (by omega)
    have d1' : ¬ (39 : Int) ≤ (op : Int) := by omega
    rw [show decide (39 ≤ op) = false from decide_eq_false h1, Bool.false_and, Bool.false_and]
    go_enter Try.func46, Try.ntmps46
    go_wp2_with (go_at_call 15; with_reducible refine (HI.out _).mono ?_; rintro e w1 ⟨rfl, hb1⟩; have X1 := dhid (HX.out.next hb1); clear hb1)
    have hl1 := X1.out.lt
    obtain ⟨W0, hW0⟩ : ∃ W0, (w1.alloc (.cells #[.string (opWd op), .int .i64 (opWi op), .int .u32 (opMo op), .int .i64 ta, .int .i64 (opGi op), .int .u8 (opKi op)] 55)) = W0 := ⟨_, rfl⟩
    have X2 : Hid (Bx w W0 ⟨op, arg⟩ ⟨f0, f1, f2, op, f4, f5⟩) := dhid (hW0 ▸ (X1.out.next ((Below.refl _ _).alloc (Nat.le_refl _) _)))
    have q2 : W0.cell? ⟨w1.heap.size, 3, none⟩ = some (.int .i64 (ta : Int)) := by
      rw [← hW0]
      exact obj_cell (heap_alloc_last w1 _) 3
    have C2 : Hid ((fun V => V.cell? ⟨w.heap.size, 0, none⟩ = some (.int .u8 (op : Int)) ∧ V.cell? ⟨w.heap.size + 1, 0, none⟩ = some (.int .u32 (f0 : Int)) ∧ V.cell? ⟨w.heap.size + 1, 1, none⟩ = some (.int .u32 (f1 : Int)) ∧ V.cell? ⟨w.heap.size + 1, 2, none⟩ = some (.int .u8 (f2 : Int)) ∧ V.cell? ⟨w.heap.size + 1, 3, none⟩ = some (.int .u8 (op : Int)) ∧ V.cell? ⟨w.heap.size + 1, 4, none⟩ = some (.int .u32 (f4 : Int)) ∧ V.cell? ⟨w.heap.size + 1, 5, none⟩ = some (.int .u32 (f5 : Int)) ∧ V.cell? ⟨w1.heap.size, 3, none⟩ = some (.int .i64 (ta : Int))) W0) := dhid ⟨X2.out.cells.1, X2.out.cells.2.2.1, X2.out.cells.2.2.2.1, X2.out.cells.2.2.2.2.1, X2.out.cells.2.2.2.2.2.1, X2.out.cells.2.2.2.2.2.2.1, X2.out.cells.2.2.2.2.2.2.2, q2⟩
    rw [hW0]
    obtain ⟨a1, a2, a3, a4, a5, a6, a7, a8⟩ := C2.out
    obtain ⟨z0, z1, z2, z3, z4, z5, y0, y1, y2, y3, y4, y5⟩ := X2.out.zero
    clear hW0 q2 C2 HI HX
    go_region
    all_goals go_wp2_with fail
    all_goals exact bodyPost_ret (resFzB (p := 4) (u := 5) (by kernel_rfl) _ _ (w.heap.size + 1 + 1) _ rfl (X2.out.six rfl rfl rfl rfl rfl rfl).1 _ rfl rfl) rfl ⟨rfl, (X2.out.six rfl rfl rfl rfl rfl rfl).2⟩
theorem zheap3n (w : World) (a b c : Obj) : (((w.alloc a).alloc b).alloc c).heap[w.heap.size + 1 + 1]? = some c := zheap3 w a b c
def lkHarm : Lk := fun p f => if p.1 = 42 ∨ p.1 = 43 ∨ p.1 = 44 ∨ p.1 = 45 then (f, false) else lkBin p f
theorem isHarmless_any (p : Nat × Nat) (f : Fz) (w : World) (hp : p.1 < 256) :
    Calls Try.prog 53 #[.agg #[.int .u8 (p.1 : Int), .int .u32 (p.2 : Int)], .agg (fzA f)] w fun e w' => e = .returned (.tuple #[.agg (fzA (lkHarm p f).1), .bool (lkHarm p f).2]) ∧ Below w.heap.size w w' := by
  have HB := dhid (fun w' => isBinary_any p f w' hp)
  obtain ⟨op, arg⟩ := p
  have HX := dhid (Bx.new w ⟨op, arg⟩ f)
  by_cases h : op = 42 ∨ op = 43 ∨ op = 44 ∨ op = 45
  · rw [show lkHarm (op, arg) f = (f, false) from if_pos h]
    obtain ⟨f0, f1, f2, f3, f4, f5⟩ := f
    clear HX HB hp
    simp only [fzA]
    rcases h with rfl | rfl | rfl | rfl
    all_goals
      go_enter Try.func53, Try.ntmps53
      go_wp2
      exact bodyPost_ret (resFzB (p := 4) (u := 5) (by kernel_rfl) _ _ (w.heap.size + 1 + 1) _ rfl (zheap3n _ _ _ _) _ rfl rfl) rfl ⟨rfl, zbel3 _ _ _ _⟩
  · rw [show lkHarm (op, arg) f = lkBin (op, arg) f from if_neg h]
    have d1 : ((op : Int) == 42) = false := by rw [beq_eq_false_iff_ne]; omega
    have d2 : ((op : Int) == 43) = false := by rw [beq_eq_false_iff_ne]; omega
    have d3 : ((op : Int) == 44) = false := by rw [beq_eq_false_iff_ne]; omega
    have d4 : ((op : Int) == 45) = false := by rw [beq_eq_false_iff_ne]; omega
    generalize lkBin (op, arg) f = q at *
    obtain ⟨q1, q2⟩ := q
    obtain ⟨f0, f1, f2, f3, f4, f5⟩ := f
    simp only [fzA, fz0] at HX HB ⊢
    clear h hp
    go_enter Try.func53, Try.ntmps53
    go_wp2_with (first
      | (go_at_call 46; with_reducible refine (HB.out _).mono ?_; rintro e w1 ⟨rfl, hb1⟩; have X1 := dhid (HX.out.next hb1); clear hb1)
      | (refine wpList_store_rowD rfl _ _ _ rfl (w.heap.size + 1 + 1) _ (fzA q1) rfl rfl X1.out.c2 (by rw [sizeFz]; rfl) rfl (by simp [fzA, Value.oneCell']) ?_))
    have hl := X1.out.lt
    exact bodyPost_ret (resFzB (p := 4) (u := 5) (by kernel_rfl) _ _ (w.heap.size + 1 + 1) (fzA q1) rfl (setRow_heap _ _ _ _ _ _ X1.out.c2) _ rfl rfl) rfl ⟨rfl, X1.out.bw.trans ((KpSetRow (S := fun k => k = w.heap.size + 1 + 1) _ _ _ rfl).below (by omega) (fun i e => by omega))⟩
def lkOnly (k : Nat) : Lk := fun p f => (f, decide (p.1 = k))
theorem only1_any (k g : Nat) (p : Nat × Nat) (f : Fz) (w : World) (hg : g < w.heap.size) (hc : w.cell? ⟨g, 0, none⟩ = some (.int .u8 (k : Int))) :
    Calls Try.prog 60 #[.agg #[.int .u8 (p.1 : Int), .int .u32 (p.2 : Int)], .agg (fzA f), .pointer (some ⟨g, 0, none⟩)] w fun e w' => e = .returned (.tuple #[.agg (fzA (lkOnly k p f).1), .bool (lkOnly k p f).2]) ∧ Below w.heap.size w w' := by
  obtain ⟨op, arg⟩ := p
  obtain ⟨f0, f1, f2, f3, f4, f5⟩ := f
  simp only [fzA, lkOnly]
  have hc3 : ∀ a b c, (((w.alloc a).alloc b).alloc c).cell? ⟨g, 0, none⟩ = some (.int .u8 (k : Int)) := fun a b c => ((zbel3 w a b c).cell (p := ⟨g, 0, none⟩) hg).trans hc
  have hg1 : g < w.heap.size + 1 := by omega
  have hg2 : g < w.heap.size + 1 + 1 := by omega
  go_enter Try.func60, Try.ntmps60
  go_wp2
  go_region
  all_goals go_wp2
  all_goals exact bodyPost_ret (resFzB (p := 5) (u := 6) (by kernel_rfl) _ _ (w.heap.size + 1 + 1) _ rfl (zheap3 _ _ _ _) _ rfl rfl) rfl ⟨(by first | rfl | exact congrArg (fun b => Ending.returned (Value.tuple #[Value.agg _, Value.bool b])) (zbeq _ _)), (zbel3 _ _ _ _).drew⟩
theorem zheap2 (w : World) (a b : Obj) : ((w.alloc a).alloc b).heap[w.heap.size + 1]? = some b := by
  have h : (w.alloc a).heap.size = w.heap.size + 1 := by simp
  rw [← h]
  exact heap_alloc_last _ b
theorem zbel2 (w : World) (a b : Obj) : Below w.heap.size w ((w.alloc a).alloc b) := ((Below.refl _ w).alloc (Nat.le_refl _) a).alloc (by simp) b
def layA (f : Fz) (v : Nat) : Fz := { f with a := v }
def layB (f : Fz) (v : Nat) : Fz := { f with b := v }
theorem intoA_any (f : Fz) (v : Nat) (w : World) :
    Calls Try.prog 39 #[.agg (fzA f), .int .u32 (v : Int)] w fun e w' => e = .returned (.agg (fzA (layA f v))) ∧ Below w.heap.size w w' := by
  obtain ⟨f0, f1, f2, f3, f4, f5⟩ := f
  simp only [fzA, layA]
  go_enter Try.func39, Try.ntmps39
  go_wp2
  exact bodyPost_ret (resFz (p := 4) (by kernel_rfl) _ (w.heap.size + 1) _ rfl (zheap2 _ _ _) _ rfl) rfl ⟨rfl, zbel2 _ _ _⟩
theorem intoB_any (f : Fz) (v : Nat) (w : World) :
    Calls Try.prog 52 #[.agg (fzA f), .int .u32 (v : Int)] w fun e w' => e = .returned (.agg (fzA (layB f v))) ∧ Below w.heap.size w w' := by
  obtain ⟨f0, f1, f2, f3, f4, f5⟩ := f
  simp only [fzA, layB]
  go_enter Try.func52, Try.ntmps52
  go_wp2
  exact bodyPost_ret (resFz (p := 4) (by kernel_rfl) _ (w.heap.size + 1) _ rfl (zheap2 _ _ _) _ rfl) rfl ⟨rfl, zbel2 _ _ _⟩
end Go.Proofs.Ytonmoidalkcmoaa
