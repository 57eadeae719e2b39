import Derived.Test.YtdpghhkimnifjaaRows
import Derived.WalkKit
import Derived.WalkSmall
import Derived.Laws.BitsAllLaws
import Derived.Deep.WholeRow
import Derived.Deep.QuietTactic
import Derived.BigQuiet
namespace Go.Proofs.Ytdpghhkimnifjaa
open Go.RowKit
set_option maxRecDepth 100000

/-- the table: word, width, most, takes, gives, kind -/
def ops : List (List UInt8 × Nat × Nat × Nat × Nat × Nat) := [
  ([], 0, 0, 0, 0, 0),
  ([110, 111, 112], 0, 0, 0, 0, 1),
  ([98, 114, 101, 97, 107], 0, 0, 0, 0, 8),
  ([101, 110, 116, 101, 114], 2, 65535, 0, 0, 6),
  ([108, 101, 97, 118, 101], 2, 65535, 1, 0, 7),
  ([99, 97, 108, 108], 0, 0, 1, 1, 5),
  ([103, 111, 116, 111], 2, 16383, 0, 0, 3),
  ([106, 117, 109, 112], 0, 0, 1, 0, 4),
  ([99, 111, 110, 115, 116], 4, 4294967295, 0, 1, 1),
  ([108, 111, 99, 97, 108], 4, 4294967295, 0, 1, 1),
  ([112, 111, 112], 0, 0, 1, 0, 1),
  ([100, 117, 112], 0, 0, 1, 2, 1),
  ([97, 114, 103], 1, 14, 1, 0, 1),
  ([101, 113], 2, 16383, 2, 0, 2),
  ([110, 101], 2, 16383, 2, 0, 2),
  ([108, 116, 105], 2, 16383, 2, 0, 2),
  ([108, 101, 105], 2, 16383, 2, 0, 2),
  ([103, 116, 105], 2, 16383, 2, 0, 2),
  ([103, 101, 105], 2, 16383, 2, 0, 2),
  ([108, 116, 117], 2, 16383, 2, 0, 2),
  ([108, 101, 117], 2, 16383, 2, 0, 2),
  ([103, 116, 117], 2, 16383, 2, 0, 2),
  ([103, 101, 117], 2, 16383, 2, 0, 2),
  ([101, 113, 102], 2, 16383, 2, 0, 2),
  ([110, 101, 102], 2, 16383, 2, 0, 2),
  ([108, 116, 102], 2, 16383, 2, 0, 2),
  ([108, 101, 102], 2, 16383, 2, 0, 2),
  ([103, 116, 102], 2, 16383, 2, 0, 2),
  ([103, 101, 102], 2, 16383, 2, 0, 2),
  ([108, 111, 97, 100, 49], 0, 0, 1, 1, 1),
  ([108, 111, 97, 100, 50], 0, 0, 1, 1, 1),
  ([108, 111, 97, 100, 52], 0, 0, 1, 1, 1),
  ([115, 116, 111, 114, 101, 49], 0, 0, 2, 0, 1),
  ([115, 116, 111, 114, 101, 50], 0, 0, 2, 0, 1),
  ([115, 116, 111, 114, 101, 52], 0, 0, 2, 0, 1),
  ([99, 111, 112, 121], 2, 256, 2, 0, 1),
  ([115, 101, 120, 56], 0, 0, 1, 1, 1),
  ([115, 101, 120, 49, 54], 0, 0, 1, 1, 1),
  ([110, 101, 103], 0, 0, 1, 1, 1),
  ([97, 100, 100], 0, 0, 2, 1, 1),
  ([115, 117, 98], 0, 0, 2, 1, 1),
  ([109, 117, 108], 0, 0, 2, 1, 1),
  ([100, 105, 118, 105], 0, 0, 2, 1, 1),
  ([100, 105, 118, 117], 0, 0, 2, 1, 1),
  ([109, 111, 100, 105], 0, 0, 2, 1, 1),
  ([109, 111, 100, 117], 0, 0, 2, 1, 1),
  ([97, 110, 100], 0, 0, 2, 1, 1),
  ([111, 114], 0, 0, 2, 1, 1),
  ([120, 111, 114], 0, 0, 2, 1, 1),
  ([110, 111, 116], 0, 0, 1, 1, 1),
  ([115, 104, 108], 0, 0, 2, 1, 1),
  ([115, 104, 114, 105], 0, 0, 2, 1, 1),
  ([115, 104, 114, 117], 0, 0, 2, 1, 1),
  ([110, 101, 103, 102], 0, 0, 1, 1, 1),
  ([97, 100, 100, 102], 0, 0, 2, 1, 1),
  ([115, 117, 98, 102], 0, 0, 2, 1, 1),
  ([109, 117, 108, 102], 0, 0, 2, 1, 1),
  ([100, 105, 118, 102], 0, 0, 2, 1, 1),
  ([99, 118, 105, 102], 0, 0, 1, 1, 1),
  ([99, 118, 102, 105], 0, 0, 1, 1, 1)]
def opT (k : Nat) : List UInt8 × Nat × Nat × Nat × Nat × Nat := ops.getD k ([], 0, 0, 0, 0, 0)
def opWd (k : Nat) : ByteArray := ⟨(opT k).1.toArray⟩
def opWi (k : Nat) : Nat := (opT k).2.1
def opMo (k : Nat) : Nat := (opT k).2.2.1
def opTa (k : Nat) : Nat := (opT k).2.2.2.1
def opGi (k : Nat) : Nat := (opT k).2.2.2.2.1
def opKi (k : Nat) : Nat := (opT k).2.2.2.2.2
def rowL (k : Nat) : List Value := [.string (opWd k), .int .i64 (opWi k), .int .u32 (opMo k), .int .i64 (opTa k), .int .i64 (opGi k), .int .u8 (opKi k)]
def rowV (k : Nat) : Value := .agg (rowL k).toArray
def opsV : Array Value := ((List.range 60).flatMap rowL).toArray
def opsZ : Array Value := ((List.range 60).flatMap (fun _ => rowL 0)).toArray
theorem infoOps : (Try.prog.info? 82).map (fun i => (i.zero, i.size)) = some (some (.agg opsZ), 360) := by kernel_rfl

/-- each operation of a list gives its value, whatever the frame is -/
def Pures (P : Program) (w : World) : List Oper → List Value → Prop
  | [], [] => True
  | o :: l, v :: vs => (o.guard = none ∧ ∀ a : Act, (execOp a.eval o).run P w = .ok (.value v) w) ∧ Pures P w l vs
  | _, _ => False
theorem wpList_pures {P : Program} {ops : Array Oper} {Q : Exit → Act → World → Prop} {rest : List Oper} {w : World} : ∀ (l : List Oper) (vs : List Value) (_ : Pures P w l vs) (a : Act),
    wpList P ops Q rest ((l.zip vs).foldl (fun a p => a.put p.1.dst p.2) a) w → wpList P ops Q (l ++ rest) a w
  | [], [], _, a, hk => hk
  | [], _ :: _, h, _, _ => h.elim
  | _ :: _, [], h, _, _ => h.elim
  | o :: l, v :: vs, h, a, hk => by
    obtain ⟨⟨hg, hr⟩, hrest⟩ := h
    show wpList P ops Q (o :: (l ++ rest)) a w
    unfold wpList
    rw [if_pos (by simp [Region.wanted, hg])]
    refine Or.inl ?_
    show Oper.upon P o a _ Q ((execOp a.eval o).run P w)
    rw [hr a, Oper.upon_value]
    exact wpList_pures l vs hrest _ hk
/-- where the rows stand, and where the function begins, by the numbers of the signs -/
def posT (l : List Nat) : String := String.ofList (l.map Char.ofNat)
def pos17 : String := posT [116, 97, 98, 108, 101, 46, 103, 111, 58, 49, 55]
def pos9 : String := posT [116, 97, 98, 108, 101, 46, 103, 111, 58, 57]
def rop (d k : Nat) : Oper := { dst := some d, op := .build 81 #[(0, .const (.string (opWd k))), (1, .const (.int .i64 (opWi k))), (2, .const (.int .u32 (opMo k))), (3, .const (.int .i64 (opTa k))), (4, .const (.int .i64 (opGi k))), (5, .const (.int .u8 (opKi k)))], type := 81, pos := pos17, after := #[], guard := none }
theorem rop_run (d k : Nat) (w : World) (a : Act) : (execOp a.eval (rop d k)).run Try.prog w = .ok (.value (rowV k)) w := by kernel_rfl
def ropN : Nat → List Nat → List Oper
  | _, [] => []
  | d, k :: l => rop d k :: ropN (d + 1) l
theorem rop_vals (w : World) : ∀ (l : List Nat) (d : Nat), Pures Try.prog w (ropN d l) (l.map rowV)
  | [], _ => trivial
  | k :: l, d => ⟨⟨rfl, fun a => rop_run d k w a⟩, rop_vals w l (d + 1)⟩
def perm : List Nat := [1, 2, 3, 4, 5, 6, 7, 8, 9, 10, 11, 12, 13, 14, 15, 16, 17, 18, 19, 20, 21, 22, 23, 24, 25, 26, 27, 28, 29, 30, 31, 32, 33, 34, 35, 36, 37, 38, 49, 53, 58, 59, 39, 40, 41, 42, 43, 44, 45, 46, 47, 48, 50, 51, 52, 54, 55, 56, 57]
def bop : Oper := { dst := some 60, op := .build 82 ((perm.zip (List.range 59)).map fun p => (p.1, Operand.tmp (p.2 + 1))).toArray, type := 82, pos := pos17, after := ((List.range 59).map fun k => { on := k, ground := Ground.data }).toArray, guard := none }
def sop : Oper := { dst := none, op := .store 82 (.tmp 0) (.tmp 60), type := 0, pos := pos17, after := ({ on := 59, ground := Ground.data } :: (List.range 60).map fun k => { on := k, ground := Ground.phase }).toArray, guard := none }
def reg1 : List Oper := ropN 1 perm ++ [bop, sop]
theorem body18 : Try.f33.body = some (.seq (.region 0 #[{ dst := some 0, op := Op.alloc 82, type := 0, pos := pos9, after := #[], guard := none }] false) (.seq (.region 1 reg1.toArray false) .ret)) := by kernel_rfl
def act0 (p : Value) : Act := { tmps := (p :: List.replicate 60 undef).toArray, defers := [] }
def act1 (p : Value) : Act := ((ropN 1 perm).zip (perm.map rowV)).foldl (fun a p => a.put p.1.dst p.2) (act0 p)
theorem bop_run (p : Value) (w : World) : (execOp (act1 p).eval bop).run Try.prog w = .ok (.value (.agg opsV)) w := by kernel_rfl
theorem act1_60 (p : Value) : ((act1 p).put (some 60) (.agg opsV)).eval (.tmp 60) = .agg opsV := by kernel_rfl
theorem act1_0 (p : Value) : ((act1 p).put (some 60) (.agg opsV)).eval (.tmp 0) = p := by kernel_rfl
theorem act1_d (p : Value) : ((act1 p).put (some 60) (.agg opsV)).defers = [] := by kernel_rfl
end Go.Proofs.Ytdpghhkimnifjaa
namespace Go.Proofs.Ytdpghhkimnifjaa
open Go.RowKit
set_option maxRecDepth 100000

theorem wpList_one {P : Program} {ops : Array Oper} {Q : Exit → Act → World → Prop} {rest : List Oper} {a : Act} {w : World} {o : Oper} (hg : o.guard = none)
    (h : o.upon P a (wpList P ops Q rest) Q ((execOp a.eval o).run P w)) : wpList P ops Q (o :: rest) a w := by
  unfold wpList
  rw [if_pos (by simp [Region.wanted, hg])]
  exact Or.inl h
theorem startA (p : Value) : ({ tmps := #[] ++ Array.replicate (Try.f33.ntmps - (#[] : Array Value).size) undef, defers := [] } : Act).put (some 0) p = act0 p := by kernel_rfl
theorem act2_0 (p : Value) : (((act1 p).put (some 60) (.agg opsV)).put sop.dst undef).tmps.getD 0 undef = p := by kernel_rfl
theorem act2_d (p : Value) : (((act1 p).put (some 60) (.agg opsV)).put sop.dst undef).defers = [] := by kernel_rfl
theorem opsV_all : opsV.all (·.oneCell') = true := by kernel_rfl
theorem opsV_size : opsV.size = 360 := by kernel_rfl
theorem opsZ_size : opsZ.size = 360 := by kernel_rfl
theorem ops_res : Try.f33.results = #[ResultVar.cell 0 82] := by kernel_rfl
theorem ops_und : Try.prog.underlying 82 = some (.array 60 81) := by kernel_rfl
theorem ops_any (w : World) : Calls Try.prog 33 #[] w fun e w' => e = .returned (.agg opsV) ∧ w' = w.alloc (.cells opsV 82) := by
  refine calls_of_wp Try.func33 body18 ?_
  obtain ⟨hz, hs⟩ := zero_of_info infoOps
  refine wp_seq (wp_region_list ?_)
  refine wpList_one rfl ?_
  have e1 : ∀ a : Act, (execOp a.eval { dst := some 0, op := Op.alloc 82, type := 0, pos := pos9, after := #[], guard := none }).run Try.prog w = .ok (.value (.pointer (some ⟨w.heap.size, 0, none⟩))) (w.alloc (.cells opsZ 82)) := by
    intro a
    simp [execOp, Instr.alloc, hz, Result.andThen, go_sem]
  rw [e1, Oper.upon_value]
  refine wpList_nil ?_
  show Code.wp _ _ _ _ _
  refine wp_seq (wp_region_lit ?_)
  rw [startA]
  refine wpList_pures _ _ (rop_vals _ perm 1) _ ?_
  refine wpList_one rfl ?_
  show Oper.upon _ _ (act1 _) _ _ ((execOp (act1 _).eval bop).run _ _)
  rw [bop_run, Oper.upon_value]
  refine wpList_one rfl ?_
  have e2 : ∀ a : Act, a.eval (.tmp 0) = .pointer (some ⟨w.heap.size, 0, none⟩) → a.eval (.tmp 60) = .agg opsV → (execOp a.eval sop).run Try.prog (w.alloc (.cells opsZ 82)) = .ok .skip (w.alloc (.cells opsV 82)) := by
    intro a h0 h1
    have := run_storeAt_new (P := Try.prog) w 82 opsZ opsV (by rw [hs, opsV_size]) (by rw [opsZ_size, opsV_size]) opsV_all
    simp only [execOp, sop, h0, h1, Sem.run_bind, this, Result.andThen, Sem.run_pure]
  rw [show bop.dst = some 60 from rfl, e2 _ (act1_0 _) (act1_60 _), Oper.upon_skip]
  refine wpList_nil ?_
  show Code.wp _ _ _ _ _
  refine wp_ret ?_
  refine bodyPost_ret (v := .agg opsV) ?_ ?_ ⟨rfl, rfl⟩
  · exact results_cell_row ops_res _ _ w.heap.size _ opsV (0, 0) _ (act2_0 _) (heap_alloc_last w _) ops_und rfl (by rw [hs, opsV_size])
  · exact act2_d _
end Go.Proofs.Ytdpghhkimnifjaa
namespace Go.Proofs.Ytdpghhkimnifjaa
open Go.RowKit
set_option maxRecDepth 100000

theorem bel {a w : World} {o : Obj} (h : Below a.heap.size a w) : Below a.heap.size a (w.alloc o) := h.alloc h.size o
theorem bt {w a b : World} (h1 : Below w.heap.size w a) (h2 : Below a.heap.size a b) : Below w.heap.size w b := h1.trans (h2.mono h1.size)
theorem infoR : (Try.prog.info? 60).map (·.size) = some 6 := by kernel_rfl
set_option maxRecDepth 100000 in
theorem undR : ∃ fs, Try.prog.underlying 60 = some (.struct fs) := by
  have h : (match Try.prog.underlying 60 with | some (.struct _) => true | _ => false) = true := by kernel_rfl
  split at h
  · exact ⟨_, by assumption⟩
  · cases h
/-- a row of the table that lies in its own block is read whole -/
theorem rowRes (t2 : Value) (W : World) (b : Nat) (cs : Array Value) (h6 : cs.size = 6) (hb : W.heap[b]? = some (.cells cs 60)) (tmps : Array Value) (h2 : tmps.getD 2 undef = .pointer (some ⟨b, 0, none⟩)) (h3 : tmps.getD 3 undef = t2) :
    (results Try.f20 tmps).run Try.prog W = .ok (.tuple #[.agg cs, t2]) W := by
  obtain ⟨fs, hu⟩ := undR
  rw [results_cell_tmp (p := 2) (u := 3) (ty := 60) (by kernel_rfl), h2, h3]
  have := run_loadVar_row (P := Try.prog) W b 60 60 cs (0, 0) _ hb hu rfl (by rw [infoR, h6])
  simp only [asAddr, Sem.run_pure, Result.andThen, this]
theorem index_ops (w : World) : ∀ (op : Nat), op < 60 → (Instr.index 82 (.agg opsV) (.int .u8 (op : Int))).run Try.prog w = .ok (.agg #[.string (opWd op), .int .i64 (opWi op), .int .u32 (opMo op), .int .i64 (opTa op), .int .i64 (opGi op), .int .u8 (opKi op)]) w
  | 0, _ => by kernel_rfl
  | 1, _ => by kernel_rfl
  | 2, _ => by kernel_rfl
  | 3, _ => by kernel_rfl
  | 4, _ => by kernel_rfl
  | 5, _ => by kernel_rfl
  | 6, _ => by kernel_rfl
  | 7, _ => by kernel_rfl
  | 8, _ => by kernel_rfl
  | 9, _ => by kernel_rfl
  | 10, _ => by kernel_rfl
  | 11, _ => by kernel_rfl
  | 12, _ => by kernel_rfl
  | 13, _ => by kernel_rfl
  | 14, _ => by kernel_rfl
  | 15, _ => by kernel_rfl
  | 16, _ => by kernel_rfl
  | 17, _ => by kernel_rfl
  | 18, _ => by kernel_rfl
  | 19, _ => by kernel_rfl
  | 20, _ => by kernel_rfl
  | 21, _ => by kernel_rfl
  | 22, _ => by kernel_rfl
  | 23, _ => by kernel_rfl
  | 24, _ => by kernel_rfl
  | 25, _ => by kernel_rfl
  | 26, _ => by kernel_rfl
  | 27, _ => by kernel_rfl
  | 28, _ => by kernel_rfl
  | 29, _ => by kernel_rfl
  | 30, _ => by kernel_rfl
  | 31, _ => by kernel_rfl
  | 32, _ => by kernel_rfl
  | 33, _ => by kernel_rfl
  | 34, _ => by kernel_rfl
  | 35, _ => by kernel_rfl
  | 36, _ => by kernel_rfl
  | 37, _ => by kernel_rfl
  | 38, _ => by kernel_rfl
  | 39, _ => by kernel_rfl
  | 40, _ => by kernel_rfl
  | 41, _ => by kernel_rfl
  | 42, _ => by kernel_rfl
  | 43, _ => by kernel_rfl
  | 44, _ => by kernel_rfl
  | 45, _ => by kernel_rfl
  | 46, _ => by kernel_rfl
  | 47, _ => by kernel_rfl
  | 48, _ => by kernel_rfl
  | 49, _ => by kernel_rfl
  | 50, _ => by kernel_rfl
  | 51, _ => by kernel_rfl
  | 52, _ => by kernel_rfl
  | 53, _ => by kernel_rfl
  | 54, _ => by kernel_rfl
  | 55, _ => by kernel_rfl
  | 56, _ => by kernel_rfl
  | 57, _ => by kernel_rfl
  | 58, _ => by kernel_rfl
  | 59, _ => by kernel_rfl
  | n + 60, h => absurd h (by omega)
theorem opT_zero (k : Nat) (h : ¬ (1 ≤ k ∧ k ≤ 59)) : opWd k = ⟨#[]⟩ ∧ opWi k = 0 ∧ opMo k = 0 ∧ opTa k = 0 ∧ opGi k = 0 ∧ opKi k = 0 := by
  have : opT k = ([], 0, 0, 0, 0, 0) := by
    by_cases h0 : k = 0
    · subst h0; rfl
    · have hl : ops.length ≤ k := by show 60 ≤ k; omega
      unfold opT
      rw [List.getD_eq_getElem?_getD, List.getElem?_eq_none hl]
      rfl
  simp [opWd, opWi, opMo, opTa, opGi, opKi, this]
def isOp (k : Nat) : Bool := decide (1 ≤ k ∧ k ≤ 59)
set_option maxHeartbeats 1000000 in
theorem info_any (op : Nat) (w : World) (h : op < 256) :
    Calls Try.prog 20 #[.int .u8 op] w fun e w' => e = .returned (.tuple #[.agg #[.string (opWd op), .int .i64 (opWi op), .int .u32 (opMo op), .int .i64 (opTa op), .int .i64 (opGi op), .int .u8 (opKi op)], .bool (isOp op)]) ∧ Below w.heap.size w w' := by
  by_cases h1 : op = 0
  · subst h1
    go_enter Try.func20, Try.ntmps20
    go_wp2
    refine bodyPost_ret (v := .tuple #[.agg #[.string ⟨#[]⟩, .int .i64 0, .int .u32 0, .int .i64 0, .int .i64 0, .int .u8 0], .bool false]) (rowRes _ _ w.heap.size _ rfl (heap_alloc_last w _) _ rfl rfl) rfl ⟨rfl, bel (Below.refl _ _)⟩
  by_cases h2 : 59 < op
  · have hT := opT_zero op (by omega)
    have hI : isOp op = false := by unfold isOp; exact decide_eq_false (by omega)
    rw [hT.1, hT.2.1, hT.2.2.1, hT.2.2.2.1, hT.2.2.2.2.1, hT.2.2.2.2.2, hI]
    clear hT hI
    have hlt : ¬ ((op : Int) < 1) := by omega
    have hgt : (59 : Int) < op := by omega
    go_enter Try.func20, Try.ntmps20
    go_wp2
    refine bodyPost_ret (v := .tuple #[.agg #[.string ⟨#[]⟩, .int .i64 0, .int .u32 0, .int .i64 0, .int .i64 0, .int .u8 0], .bool false]) (rowRes _ _ w.heap.size _ rfl (heap_alloc_last w _) _ rfl rfl) rfl ⟨rfl, bel (Below.refl _ _)⟩
  have hlt : ¬ ((op : Int) < 1) := by omega
  have hgt : ¬ (59 : Int) < op := by omega
  have hI : isOp op = true := by unfold isOp; exact decide_eq_true (by omega)
  rw [hI]
  clear hI
  have hix := fun w => index_ops w op (by omega)
  generalize opWd op = a0 at hix ⊢
  generalize opWi op = a1 at hix ⊢
  generalize opMo op = a2 at hix ⊢
  generalize opTa op = a3 at hix ⊢
  generalize opGi op = a4 at hix ⊢
  generalize opKi op = a5 at hix ⊢
  go_enter Try.func20, Try.ntmps20
  go_wp2_with (go_at_call 33; refine (ops_any _).mono ?_; rintro e wq ⟨rfl, hq⟩; subst wq; generalize hV : opsV = V at *; clear hV)
  exact bodyPost_ret (rowRes _ _ w.heap.size _ rfl (heap_alloc2_old w _ _) _ rfl rfl) rfl ⟨rfl, bel (bel (Below.refl _ _))⟩
end Go.Proofs.Ytdpghhkimnifjaa
