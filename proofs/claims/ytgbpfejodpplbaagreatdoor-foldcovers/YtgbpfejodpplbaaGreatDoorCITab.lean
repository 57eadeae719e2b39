import Derived.Test.YtgbpfejodpplbaaGreatDoorRows
import Derived.WalkKit
import Derived.WalkSmall
import Derived.Laws.BitsAllLaws
import Derived.Deep.WholeRow
import Derived.Deep.QuietTactic
import Derived.BigQuiet
namespace Go.Proofs.YtgbpfejodpplbaaGreatDoor
open Go.RowKit
set_option maxRecDepth 100000

/-- the table: word, width, most, takes, gives, kind -/
def ops : List (List UInt8 × Nat × Nat × Nat × Nat × Nat) := [
  ([], 0, 0, 0, 0, 0),
  ([110, 111, 112], 0, 0, 0, 0, 1),
  ([98, 114, 101, 97, 107], 0, 0, 0, 0, 8),
  ([101, 110, 116, 101, 114], 2, 65535, 0, 0, 6),
  ([108, 101, 97, 118, 101], 2, 65535, 1, 0, 7),
  ([99, 97, 108, 108], 0, 0, 1, 1, 5),
  ([103, 111, 116, 111], 2, 16383, 0, 0, 3),
  ([106, 117, 109, 112], 0, 0, 1, 0, 4),
  ([99, 111, 110, 115, 116], 4, 4294967295, 0, 1, 1),
  ([108, 111, 99, 97, 108], 4, 4294967295, 0, 1, 1),
  ([112, 111, 112], 0, 0, 1, 0, 1),
  ([100, 117, 112], 0, 0, 1, 2, 1),
  ([97, 114, 103], 1, 14, 1, 0, 1),
  ([101, 113], 2, 16383, 2, 0, 2),
  ([110, 101], 2, 16383, 2, 0, 2),
  ([108, 116, 105], 2, 16383, 2, 0, 2),
  ([108, 101, 105], 2, 16383, 2, 0, 2),
  ([103, 116, 105], 2, 16383, 2, 0, 2),
  ([103, 101, 105], 2, 16383, 2, 0, 2),
  ([108, 116, 117], 2, 16383, 2, 0, 2),
  ([108, 101, 117], 2, 16383, 2, 0, 2),
  ([103, 116, 117], 2, 16383, 2, 0, 2),
  ([103, 101, 117], 2, 16383, 2, 0, 2),
  ([101, 113, 102], 2, 16383, 2, 0, 2),
  ([110, 101, 102], 2, 16383, 2, 0, 2),
  ([108, 116, 102], 2, 16383, 2, 0, 2),
  ([108, 101, 102], 2, 16383, 2, 0, 2),
  ([103, 116, 102], 2, 16383, 2, 0, 2),
  ([103, 101, 102], 2, 16383, 2, 0, 2),
  ([108, 111, 97, 100, 49], 0, 0, 1, 1, 1),
  ([108, 111, 97, 100, 50], 0, 0, 1, 1, 1),
  ([108, 111, 97, 100, 52], 0, 0, 1, 1, 1),
  ([115, 116, 111, 114, 101, 49], 0, 0, 2, 0, 1),
  ([115, 116, 111, 114, 101, 50], 0, 0, 2, 0, 1),
  ([115, 116, 111, 114, 101, 52], 0, 0, 2, 0, 1),
  ([99, 111, 112, 121], 2, 256, 2, 0, 1),
  ([115, 101, 120, 56], 0, 0, 1, 1, 1),
  ([115, 101, 120, 49, 54], 0, 0, 1, 1, 1),
  ([110, 101, 103], 0, 0, 1, 1, 1),
  ([97, 100, 100], 0, 0, 2, 1, 1),
  ([115, 117, 98], 0, 0, 2, 1, 1),
  ([109, 117, 108], 0, 0, 2, 1, 1),
  ([100, 105, 118, 105], 0, 0, 2, 1, 1),
  ([100, 105, 118, 117], 0, 0, 2, 1, 1),
  ([109, 111, 100, 105], 0, 0, 2, 1, 1),
  ([109, 111, 100, 117], 0, 0, 2, 1, 1),
  ([97, 110, 100], 0, 0, 2, 1, 1),
  ([111, 114], 0, 0, 2, 1, 1),
  ([120, 111, 114], 0, 0, 2, 1, 1),
  ([110, 111, 116], 0, 0, 1, 1, 1),
  ([115, 104, 108], 0, 0, 2, 1, 1),
  ([115, 104, 114, 105], 0, 0, 2, 1, 1),
  ([115, 104, 114, 117], 0, 0, 2, 1, 1),
  ([110, 101, 103, 102], 0, 0, 1, 1, 1),
  ([97, 100, 100, 102], 0, 0, 2, 1, 1),
  ([115, 117, 98, 102], 0, 0, 2, 1, 1),
  ([109, 117, 108, 102], 0, 0, 2, 1, 1),
  ([100, 105, 118, 102], 0, 0, 2, 1, 1),
  ([99, 118, 105, 102], 0, 0, 1, 1, 1),
  ([99, 118, 102, 105], 0, 0, 1, 1, 1)]
def opT (k : Nat) : List UInt8 × Nat × Nat × Nat × Nat × Nat := ops.getD k ([], 0, 0, 0, 0, 0)
def opWd (k : Nat) : ByteArray := ⟨(opT k).1.toArray⟩
def opWi (k : Nat) : Nat := (opT k).2.1
def opMo (k : Nat) : Nat := (opT k).2.2.1
def opTa (k : Nat) : Nat := (opT k).2.2.2.1
def opGi (k : Nat) : Nat := (opT k).2.2.2.2.1
def opKi (k : Nat) : Nat := (opT k).2.2.2.2.2
def rowL (k : Nat) : List Value := [.string (opWd k), .int .i64 (opWi k), .int .u32 (opMo k), .int .i64 (opTa k), .int .i64 (opGi k), .int .u8 (opKi k)]
def rowV (k : Nat) : Value := .agg (rowL k).toArray
def opsV : Array Value := ((List.range 60).flatMap rowL).toArray
def opsZ : Array Value := ((List.range 60).flatMap (fun _ => rowL 0)).toArray
theorem infoOps : (Tryz.prog.info? 133).map (fun i => (i.zero, i.size)) = some (some (.agg opsZ), 360) := by kernel_rfl

/-- each operation of a list gives its value, whatever the frame is -/
def Pures (P : Program) (w : World) : List Oper → List Value → Prop
  | [], [] => True
  | o :: l, v :: vs => (o.guard = none ∧ ∀ a : Act, (execOp a.eval o).run P w = .ok (.value v) w) ∧ Pures P w l vs
  | _, _ => False
theorem wpList_pures {P : Program} {ops : Array Oper} {Q : Exit → Act → World → Prop} {rest : List Oper} {w : World} : ∀ (l : List Oper) (vs : List Value) (_ : Pures P w l vs) (a : Act),
    wpList P ops Q rest ((l.zip vs).foldl (fun a p => a.put p.1.dst p.2) a) w → wpList P ops Q (l ++ rest) a w
  | [], [], _, a, hk => hk
  | [], _ :: _, h, _, _ => h.elim
  | _ :: _, [], h, _, _ => h.elim
  | o :: l, v :: vs, h, a, hk => by
    obtain ⟨⟨hg, hr⟩, hrest⟩ := h
    show wpList P ops Q (o :: (l ++ rest)) a w
    unfold wpList
    rw [if_pos (by simp [Region.wanted, hg])]
    refine Or.inl ?_
    show Oper.upon P o a _ Q ((execOp a.eval o).run P w)
    rw [hr a, Oper.upon_value]
    exact wpList_pures l vs hrest _ hk
/-- where the rows stand, and where the function begins, by the numbers of the signs -/
def posT (l : List Nat) : String := String.ofList (l.map Char.ofNat)
def pos17 : String := posT [116, 97, 98, 108, 101, 46, 103, 111, 58, 49, 55]
def pos9 : String := posT [116, 97, 98, 108, 101, 46, 103, 111, 58, 57]
def rop (d k : Nat) : Oper := { dst := some d, op := .build 132 #[(0, .const (.string (opWd k))), (1, .const (.int .i64 (opWi k))), (2, .const (.int .u32 (opMo k))), (3, .const (.int .i64 (opTa k))), (4, .const (.int .i64 (opGi k))), (5, .const (.int .u8 (opKi k)))], type := 132, pos := pos17, after := #[], guard := none }
theorem rop_run (d k : Nat) (w : World) (a : Act) : (execOp a.eval (rop d k)).run Tryz.prog w = .ok (.value (rowV k)) w := by kernel_rfl
def ropN : Nat → List Nat → List Oper
  | _, [] => []
  | d, k :: l => rop d k :: ropN (d + 1) l
theorem rop_vals (w : World) : ∀ (l : List Nat) (d : Nat), Pures Tryz.prog w (ropN d l) (l.map rowV)
  | [], _ => trivial
  | k :: l, d => ⟨⟨rfl, fun a => rop_run d k w a⟩, rop_vals w l (d + 1)⟩
def perm : List Nat := [1, 2, 3, 4, 5, 6, 7, 8, 9, 10, 11, 12, 13, 14, 15, 16, 17, 18, 19, 20, 21, 22, 23, 24, 25, 26, 27, 28, 29, 30, 31, 32, 33, 34, 35, 36, 37, 38, 49, 53, 58, 59, 39, 40, 41, 42, 43, 44, 45, 46, 47, 48, 50, 51, 52, 54, 55, 56, 57]
def bop : Oper := { dst := some 60, op := .build 133 ((perm.zip (List.range 59)).map fun p => (p.1, Operand.tmp (p.2 + 1))).toArray, type := 133, pos := pos17, after := ((List.range 59).map fun k => { on := k, ground := Ground.data }).toArray, guard := none }
def sop : Oper := { dst := none, op := .store 133 (.tmp 0) (.tmp 60), type := 0, pos := pos17, after := ({ on := 59, ground := Ground.data } :: (List.range 60).map fun k => { on := k, ground := Ground.phase }).toArray, guard := none }
def reg1 : List Oper := ropN 1 perm ++ [bop, sop]
theorem body18 : Tryz.f62.body = some (.seq (.region 0 #[{ dst := some 0, op := Op.alloc 133, type := 0, pos := pos9, after := #[], guard := none }] false) (.seq (.region 1 reg1.toArray false) .ret)) := by kernel_rfl
def act0 (p : Value) : Act := { tmps := (p :: List.replicate 60 undef).toArray, defers := [] }
def act1 (p : Value) : Act := ((ropN 1 perm).zip (perm.map rowV)).foldl (fun a p => a.put p.1.dst p.2) (act0 p)
theorem bop_run (p : Value) (w : World) : (execOp (act1 p).eval bop).run Tryz.prog w = .ok (.value (.agg opsV)) w := by kernel_rfl
theorem act1_60 (p : Value) : ((act1 p).put (some 60) (.agg opsV)).eval (.tmp 60) = .agg opsV := by kernel_rfl
theorem act1_0 (p : Value) : ((act1 p).put (some 60) (.agg opsV)).eval (.tmp 0) = p := by kernel_rfl
theorem act1_d (p : Value) : ((act1 p).put (some 60) (.agg opsV)).defers = [] := by kernel_rfl
end Go.Proofs.YtgbpfejodpplbaaGreatDoor
