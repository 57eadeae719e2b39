import Derived.Test.YtibhlcfligfhdaaGreatCSInB
import Derived.Test.YtibhlcfligfhdaaGreatCABin
import Derived.Test.YtibhlcfligfhdaaGreatRows
import Derived.WalkKit
import Derived.WalkSmall
import Derived.Laws.BitsAllLaws
import Derived.Deep.WholeRow
import Derived.Deep.QuietTactic
import Derived.BigQuiet
namespace Go.Proofs.YtibhlcfligfhdaaGreat
open Go.RowKit
set_option maxRecDepth 100000
def sex8 (a : Nat) : Nat := if a % 256 < 128 then a % 256 else a % 256 + 4294967040
def sex16 (a : Nat) : Nat := if a % 65536 < 32768 then a % 65536 else a % 65536 + 4294901760
theorem u_w8 (a : Nat) : IntKind.i8.wrap (a : Int) % 4294967296 = (sex8 a : Int) := by
 have e : IntKind.i8.wrap (a : Int) = ((a : Int) + 128) % 256 - 128 := by rw [IntKind.wrap]; simp [IntKind.signed, IntKind.bits]; split <;> omega
 rw [e]; unfold sex8; split <;> omega
theorem u_w16 (a : Nat) : IntKind.i16.wrap (a : Int) % 4294967296 = (sex16 a : Int) := by
 have e : IntKind.i16.wrap (a : Int) = ((a : Int) + 32768) % 65536 - 32768 := by rw [IntKind.wrap]; simp [IntKind.signed, IntKind.bits]; split <;> omega
 rw [e]; unfold sex16; split <;> omega
theorem xor_ones {a : Nat} (ha : a < 4294967296) : a ^^^ 4294967295 = 4294967295 - a := by
 have h : (BitVec.ofNat 32 a ^^^ BitVec.allOnes 32).toNat = (~~~ BitVec.ofNat 32 a).toNat := by rw [BitVec.xor_allOnes]
 rw [BitVec.toNat_xor, BitVec.toNat_not, BitVec.toNat_allOnes, BitVec.toNat_ofNat, Nat.mod_eq_of_lt ha] at h
 exact h
theorem u_not {a : Nat} (ha : a < 4294967296) : bits .xor .u32 IntKind.u32.max (a : Int) = ((4294967295 - a : Nat) : Int) := by
 have h1 : IntKind.u32.max = ((4294967295 : Nat) : Int) := rfl
 rw [h1, u32_xor_nat 4294967295 a (by decide) ha]
 congr 1
 have := Nat.xor_comm 4294967295 a
 rw [this]
 exact xor_ones ha
theorem u_sex8_any (a : Nat) (w : World) :
   Calls Tryz.prog 102 #[.int .u8 36, .int .u32 a] w fun e w' => e = .returned (.tuple #[.int .u32 ((sex8 a : Nat) : Int), .int .i64 0]) ∧ w' = w := by
 have e := u_w8 a
 rw [← e]
 clear e
 go_enter Tryz.func102, Tryz.ntmps102
 go_wp2
 simp [bodyPost, results, Tryz.results102]
theorem u_sex16_any (a : Nat) (w : World) :
   Calls Tryz.prog 102 #[.int .u8 37, .int .u32 a] w fun e w' => e = .returned (.tuple #[.int .u32 ((sex16 a : Nat) : Int), .int .i64 0]) ∧ w' = w := by
 have e := u_w16 a
 rw [← e]
 clear e
 go_enter Tryz.func102, Tryz.ntmps102
 go_wp2
 simp [bodyPost, results, Tryz.results102]
theorem u_neg_any (a : Nat) (w : World) (ha : a < 4294967296) :
   Calls Tryz.prog 102 #[.int .u8 38, .int .u32 a] w fun e w' => e = .returned (.tuple #[.int .u32 (((4294967296 - a) % 4294967296 : Nat) : Int), .int .i64 0]) ∧ w' = w := by
 have e : (-(a : Int)) % 4294967296 = (((4294967296 - a) % 4294967296 : Nat) : Int) := by omega
 rw [← e]
 clear e
 go_enter Tryz.func102, Tryz.ntmps102
 go_wp2
 simp [bodyPost, results, Tryz.results102]
theorem u_not_any (a : Nat) (w : World) (ha : a < 4294967296) :
   Calls Tryz.prog 102 #[.int .u8 49, .int .u32 a] w fun e w' => e = .returned (.tuple #[.int .u32 ((4294967295 - a : Nat) : Int), .int .i64 0]) ∧ w' = w := by
 have e := u_not ha
 have hs : ¬ IntKind.u32.signed = true := by decide
 rw [← e]
 clear e
 go_enter Tryz.func102, Tryz.ntmps102
 go_wp2
 simp [bodyPost, results, Tryz.results102]
theorem u_negf_any (a : Nat) (w : World) (ha : a < 4294967296) :
   Calls Tryz.prog 102 #[.int .u8 53, .int .u32 a] w fun e w' => e = .returned (.tuple #[.int .u32 ((tn a : Nat) : Int), .int .i64 0]) ∧ w' = w := by
 go_enter Tryz.func102, Tryz.ntmps102
 go_wp2_with (go_at_call 119; refine (turned_any _ _ ha).mono ?_; rintro e wq ⟨rfl, hq⟩; subst wq)
 simp [bodyPost, results, Tryz.results102]
theorem u_cvif_any (a : Nat) (w : World) (ha : a < 4294967296) :
   Calls Tryz.prog 102 #[.int .u8 58, .int .u32 a] w fun e w' => e = .returned (.tuple #[.int .u32 ((fof (sx a) : Nat) : Int), .int .i64 0]) ∧ w' = w := by
 have e := wrap32_sx ha
 rw [← e]
 clear e
 go_enter Tryz.func102, Tryz.ntmps102
 go_wp2_with (go_at_call 120; refine (of_any _ _).mono ?_; rintro e wq ⟨rfl, hq⟩; subst wq)
 simp [bodyPost, results, Tryz.results102]
theorem u_cvfi_any (a : Nat) (w : World) (ha : a < 4294967296) :
   Calls Tryz.prog 102 #[.int .u8 59, .int .u32 a] w fun e w' => e = .returned (.tuple #[.int .u32 (((twV a % 4294967296).toNat : Nat) : Int), .int .i64 0]) ∧ w' = w := by
 have e := anat_of (z := twV a)
 rw [e]
 clear e
 go_enter Tryz.func102, Tryz.ntmps102
 go_wp2_with (go_at_call 121; refine (ptoward_any _ _ ha).mono ?_; rintro e wq ⟨rfl, hq⟩; subst wq)
 simp [bodyPost, results, Tryz.results102]
theorem u_none_any (op a : Nat) (w : World) (h36 : ¬ (op : Int) = 36) (h37 : ¬ (op : Int) = 37) (h38 : ¬ (op : Int) = 38) (h49 : ¬ (op : Int) = 49) (h53 : ¬ (op : Int) = 53) (h58 : ¬ (op : Int) = 58) (h59 : ¬ (op : Int) = 59) :
   Calls Tryz.prog 102 #[.int .u8 op, .int .u32 a] w fun e w' => e = .returned (.tuple #[.int .u32 0, .int .i64 61]) ∧ w' = w := by
 go_enter Tryz.func102, Tryz.ntmps102
 go_wp2
 simp [bodyPost, results, Tryz.results102]
def unV (op a : Nat) : Nat := if op = 36 then (sex8 a) else if op = 37 then (sex16 a) else if op = 38 then ((4294967296 - a) % 4294967296) else if op = 49 then (4294967295 - a) else if op = 53 then (tn a) else if op = 58 then (fof (sx a)) else if op = 59 then ((twV a % 4294967296).toNat) else 0
def unE (op : Nat) : Int := if op = 36 ∨ op = 37 ∨ op = 38 ∨ op = 49 ∨ op = 53 ∨ op = 58 ∨ op = 59 then 0 else 61
theorem unV_36 (a : Nat) : unV 36 a = (sex8 a) := by
 unfold unV
 repeat (first | rw [if_pos rfl] | rw [if_neg (by decide)])
theorem unV_37 (a : Nat) : unV 37 a = (sex16 a) := by
 unfold unV
 repeat (first | rw [if_pos rfl] | rw [if_neg (by decide)])
theorem unV_38 (a : Nat) : unV 38 a = ((4294967296 - a) % 4294967296) := by
 unfold unV
 repeat (first | rw [if_pos rfl] | rw [if_neg (by decide)])
theorem unV_49 (a : Nat) : unV 49 a = (4294967295 - a) := by
 unfold unV
 repeat (first | rw [if_pos rfl] | rw [if_neg (by decide)])
theorem unV_53 (a : Nat) : unV 53 a = (tn a) := by
 unfold unV
 repeat (first | rw [if_pos rfl] | rw [if_neg (by decide)])
theorem unV_58 (a : Nat) : unV 58 a = (fof (sx a)) := by
 unfold unV
 repeat (first | rw [if_pos rfl] | rw [if_neg (by decide)])
theorem unV_59 (a : Nat) : unV 59 a = ((twV a % 4294967296).toNat) := by
 unfold unV
 repeat (first | rw [if_pos rfl] | rw [if_neg (by decide)])
theorem un_any (op a : Nat) (w : World) (ha : a < 4294967296) :
   Calls Tryz.prog 102 #[.int .u8 op, .int .u32 a] w fun e w' => e = .returned (.tuple #[.int .u32 (unV op a), .int .i64 (unE op)]) ∧ w' = w := by
 by_cases h36 : op = 36
 · subst h36
   rw [unV_36, show unE 36 = 0 from rfl]
   exact u_sex8_any a w
 by_cases h37 : op = 37
 · subst h37
   rw [unV_37, show unE 37 = 0 from rfl]
   exact u_sex16_any a w
 by_cases h38 : op = 38
 · subst h38
   rw [unV_38, show unE 38 = 0 from rfl]
   exact u_neg_any a w ha
 by_cases h49 : op = 49
 · subst h49
   rw [unV_49, show unE 49 = 0 from rfl]
   exact u_not_any a w ha
 by_cases h53 : op = 53
 · subst h53
   rw [unV_53, show unE 53 = 0 from rfl]
   exact u_negf_any a w ha
 by_cases h58 : op = 58
 · subst h58
   rw [unV_58, show unE 58 = 0 from rfl]
   exact u_cvif_any a w ha
 by_cases h59 : op = 59
 · subst h59
   rw [unV_59, show unE 59 = 0 from rfl]
   exact u_cvfi_any a w ha
 have h0 : unV op a = 0 := by unfold unV; simp only [if_neg h36, if_neg h37, if_neg h38, if_neg h49, if_neg h53, if_neg h58, if_neg h59]
 have h1 : unE op = 61 := by unfold unE; rw [if_neg (by omega)]
 rw [h0, h1]
 exact u_none_any op a w (by omega) (by omega) (by omega) (by omega) (by omega) (by omega) (by omega)
end Go.Proofs.YtibhlcfligfhdaaGreat
namespace Go.Proofs.YtibhlcfligfhdaaGreat
open Go.RowKit
set_option maxRecDepth 100000
def ops : List (List UInt8 × Nat × Nat × Nat × Nat × Nat) := [
 ([], 0, 0, 0, 0, 0),
 ([110, 111, 112], 0, 0, 0, 0, 1),
 ([98, 114, 101, 97, 107], 0, 0, 0, 0, 8),
 ([101, 110, 116, 101, 114], 2, 65535, 0, 0, 6),
 ([108, 101, 97, 118, 101], 2, 65535, 1, 0, 7),
 ([99, 97, 108, 108], 0, 0, 1, 1, 5),
 ([103, 111, 116, 111], 2, 16383, 0, 0, 3),
 ([106, 117, 109, 112], 0, 0, 1, 0, 4),
 ([99, 111, 110, 115, 116], 4, 4294967295, 0, 1, 1),
 ([108, 111, 99, 97, 108], 4, 4294967295, 0, 1, 1),
 ([112, 111, 112], 0, 0, 1, 0, 1),
 ([100, 117, 112], 0, 0, 1, 2, 1),
 ([97, 114, 103], 1, 14, 1, 0, 1),
 ([101, 113], 2, 16383, 2, 0, 2),
 ([110, 101], 2, 16383, 2, 0, 2),
 ([108, 116, 105], 2, 16383, 2, 0, 2),
 ([108, 101, 105], 2, 16383, 2, 0, 2),
 ([103, 116, 105], 2, 16383, 2, 0, 2),
 ([103, 101, 105], 2, 16383, 2, 0, 2),
 ([108, 116, 117], 2, 16383, 2, 0, 2),
 ([108, 101, 117], 2, 16383, 2, 0, 2),
 ([103, 116, 117], 2, 16383, 2, 0, 2),
 ([103, 101, 117], 2, 16383, 2, 0, 2),
 ([101, 113, 102], 2, 16383, 2, 0, 2),
 ([110, 101, 102], 2, 16383, 2, 0, 2),
 ([108, 116, 102], 2, 16383, 2, 0, 2),
 ([108, 101, 102], 2, 16383, 2, 0, 2),
 ([103, 116, 102], 2, 16383, 2, 0, 2),
 ([103, 101, 102], 2, 16383, 2, 0, 2),
 ([108, 111, 97, 100, 49], 0, 0, 1, 1, 1),
 ([108, 111, 97, 100, 50], 0, 0, 1, 1, 1),
 ([108, 111, 97, 100, 52], 0, 0, 1, 1, 1),
 ([115, 116, 111, 114, 101, 49], 0, 0, 2, 0, 1),
 ([115, 116, 111, 114, 101, 50], 0, 0, 2, 0, 1),
 ([115, 116, 111, 114, 101, 52], 0, 0, 2, 0, 1),
 ([99, 111, 112, 121], 2, 256, 2, 0, 1),
 ([115, 101, 120, 56], 0, 0, 1, 1, 1),
 ([115, 101, 120, 49, 54], 0, 0, 1, 1, 1),
 ([110, 101, 103], 0, 0, 1, 1, 1),
 ([97, 100, 100], 0, 0, 2, 1, 1),
 ([115, 117, 98], 0, 0, 2, 1, 1),
 ([109, 117, 108], 0, 0, 2, 1, 1),
 ([100, 105, 118, 105], 0, 0, 2, 1, 1),
 ([100, 105, 118, 117], 0, 0, 2, 1, 1),
 ([109, 111, 100, 105], 0, 0, 2, 1, 1),
 ([109, 111, 100, 117], 0, 0, 2, 1, 1),
 ([97, 110, 100], 0, 0, 2, 1, 1),
 ([111, 114], 0, 0, 2, 1, 1),
 ([120, 111, 114], 0, 0, 2, 1, 1),
 ([110, 111, 116], 0, 0, 1, 1, 1),
 ([115, 104, 108], 0, 0, 2, 1, 1),
 ([115, 104, 114, 105], 0, 0, 2, 1, 1),
 ([115, 104, 114, 117], 0, 0, 2, 1, 1),
 ([110, 101, 103, 102], 0, 0, 1, 1, 1),
 ([97, 100, 100, 102], 0, 0, 2, 1, 1),
 ([115, 117, 98, 102], 0, 0, 2, 1, 1),
 ([109, 117, 108, 102], 0, 0, 2, 1, 1),
 ([100, 105, 118, 102], 0, 0, 2, 1, 1),
 ([99, 118, 105, 102], 0, 0, 1, 1, 1),
 ([99, 118, 102, 105], 0, 0, 1, 1, 1)]
def opT (k : Nat) : List UInt8 × Nat × Nat × Nat × Nat × Nat := ops.getD k ([], 0, 0, 0, 0, 0)
def opWd (k : Nat) : ByteArray := ⟨(opT k).1.toArray⟩
def opWi (k : Nat) : Nat := (opT k).2.1
def opMo (k : Nat) : Nat := (opT k).2.2.1
def opTa (k : Nat) : Nat := (opT k).2.2.2.1
def opGi (k : Nat) : Nat := (opT k).2.2.2.2.1
def opKi (k : Nat) : Nat := (opT k).2.2.2.2.2
def rowL (k : Nat) : List Value := [.string (opWd k), .int .i64 (opWi k), .int .u32 (opMo k), .int .i64 (opTa k), .int .i64 (opGi k), .int .u8 (opKi k)]
def rowV (k : Nat) : Value := .agg (rowL k).toArray
def opsV : Array Value := ((List.range 60).flatMap rowL).toArray
def opsZ : Array Value := ((List.range 60).flatMap (fun _ => rowL 0)).toArray
theorem infoOps : (Tryz.prog.info? 93).map (fun i => (i.zero, i.size)) = some (some (.agg opsZ), 360) := by kernel_rfl
def Pures (P : Program) (w : World) : List Oper → List Value → Prop
 | [], [] => True
 | o :: l, v :: vs => (o.guard = none ∧ ∀ a : Act, (execOp a.eval o).run P w = .ok (.value v) w) ∧ Pures P w l vs
 | _, _ => False
theorem wpList_pures {P : Program} {ops : Array Oper} {Q : Exit → Act → World → Prop} {rest : List Oper} {w : World} : ∀ (l : List Oper) (vs : List Value) (_ : Pures P w l vs) (a : Act),
   wpList P ops Q rest ((l.zip vs).foldl (fun a p => a.put p.1.dst p.2) a) w → wpList P ops Q (l ++ rest) a w
 | [], [], _, a, hk => hk
 | [], _ :: _, h, _, _ => h.elim
 | _ :: _, [], h, _, _ => h.elim
 | o :: l, v :: vs, h, a, hk => by
   obtain ⟨⟨hg, hr⟩, hrest⟩ := h
   show wpList P ops Q (o :: (l ++ rest)) a w
   unfold wpList
   rw [if_pos (by simp [Region.wanted, hg])]
   refine Or.inl ?_
   show Oper.upon P o a _ Q ((execOp a.eval o).run P w)
   rw [hr a, Oper.upon_value]
   exact wpList_pures l vs hrest _ hk
def posT (l : List Nat) : String := String.ofList (l.map Char.ofNat)
def pos17 : String := posT [116, 97, 98, 108, 101, 46, 103, 111, 58, 49, 55]
def pos9 : String := posT [116, 97, 98, 108, 101, 46, 103, 111, 58, 57]
def rop (d k : Nat) : Oper := { dst := some d, op := .build 92 #[(0, .const (.string (opWd k))), (1, .const (.int .i64 (opWi k))), (2, .const (.int .u32 (opMo k))), (3, .const (.int .i64 (opTa k))), (4, .const (.int .i64 (opGi k))), (5, .const (.int .u8 (opKi k)))], type := 92, pos := pos17, after := #[], guard := none }
theorem rop_run (d k : Nat) (w : World) (a : Act) : (execOp a.eval (rop d k)).run Tryz.prog w = .ok (.value (rowV k)) w := by kernel_rfl
def ropN : Nat → List Nat → List Oper
 | _, [] => []
 | d, k :: l => rop d k :: ropN (d + 1) l
theorem rop_vals (w : World) : ∀ (l : List Nat) (d : Nat), Pures Tryz.prog w (ropN d l) (l.map rowV)
 | [], _ => trivial
 | k :: l, d => ⟨⟨rfl, fun a => rop_run d k w a⟩, rop_vals w l (d + 1)⟩
def perm : List Nat := [1, 2, 3, 4, 5, 6, 7, 8, 9, 10, 11, 12, 13, 14, 15, 16, 17, 18, 19, 20, 21, 22, 23, 24, 25, 26, 27, 28, 29, 30, 31, 32, 33, 34, 35, 36, 37, 38, 49, 53, 58, 59, 39, 40, 41, 42, 43, 44, 45, 46, 47, 48, 50, 51, 52, 54, 55, 56, 57]
def bop : Oper := { dst := some 60, op := .build 93 ((perm.zip (List.range 59)).map fun p => (p.1, Operand.tmp (p.2 + 1))).toArray, type := 93, pos := pos17, after := ((List.range 59).map fun k => { on := k, ground := Ground.data }).toArray, guard := none }
def sop : Oper := { dst := none, op := .store 93 (.tmp 0) (.tmp 60), type := 0, pos := pos17, after := ({ on := 59, ground := Ground.data } :: (List.range 60).map fun k => { on := k, ground := Ground.phase }).toArray, guard := none }
def reg1 : List Oper := ropN 1 perm ++ [bop, sop]
theorem body18 : Tryz.f66.body = some (.seq (.region 0 #[{ dst := some 0, op := Op.alloc 93, type := 0, pos := pos9, after := #[], guard := none }] false) (.seq (.region 1 reg1.toArray false) .ret)) := by kernel_rfl
def act0 (p : Value) : Act := { tmps := (p :: List.replicate 60 undef).toArray, defers := [] }
def act1 (p : Value) : Act := ((ropN 1 perm).zip (perm.map rowV)).foldl (fun a p => a.put p.1.dst p.2) (act0 p)
theorem bop_run (p : Value) (w : World) : (execOp (act1 p).eval bop).run Tryz.prog w = .ok (.value (.agg opsV)) w := by kernel_rfl
theorem act1_60 (p : Value) : ((act1 p).put (some 60) (.agg opsV)).eval (.tmp 60) = .agg opsV := by kernel_rfl
theorem act1_0 (p : Value) : ((act1 p).put (some 60) (.agg opsV)).eval (.tmp 0) = p := by kernel_rfl
end Go.Proofs.YtibhlcfligfhdaaGreat
namespace Go.Proofs.YtibhlcfligfhdaaGreat
open Go.RowKit
set_option maxRecDepth 100000
theorem wpList_one {P : Program} {ops : Array Oper} {Q : Exit → Act → World → Prop} {rest : List Oper} {a : Act} {w : World} {o : Oper} (hg : o.guard = none)
   (h : o.upon P a (wpList P ops Q rest) Q ((execOp a.eval o).run P w)) : wpList P ops Q (o :: rest) a w := by
 unfold wpList
 rw [if_pos (by simp [Region.wanted, hg])]
 exact Or.inl h
theorem startA (p : Value) : ({ tmps := #[] ++ Array.replicate (Tryz.f66.ntmps - (#[] : Array Value).size) undef, defers := [] } : Act).put (some 0) p = act0 p := by kernel_rfl
theorem act2_0 (p : Value) : (((act1 p).put (some 60) (.agg opsV)).put sop.dst undef).tmps.getD 0 undef = p := by kernel_rfl
theorem act2_d (p : Value) : (((act1 p).put (some 60) (.agg opsV)).put sop.dst undef).defers = [] := by kernel_rfl
theorem opsV_all : opsV.all (·.oneCell') = true := by kernel_rfl
theorem opsV_size : opsV.size = 360 := by kernel_rfl
theorem opsZ_size : opsZ.size = 360 := by kernel_rfl
theorem ops_res : Tryz.f66.results = #[ResultVar.cell 0 93] := by kernel_rfl
theorem ops_und : Tryz.prog.underlying 93 = some (.array 60 92) := by kernel_rfl
theorem ops_any (w : World) : Calls Tryz.prog 66 #[] w fun e w' => e = .returned (.agg opsV) ∧ w' = w.alloc (.cells opsV 93) := by
 refine calls_of_wp Tryz.func66 body18 ?_
 obtain ⟨hz, hs⟩ := zero_of_info infoOps
 refine wp_seq (wp_region_list ?_)
 refine wpList_one rfl ?_
 have e1 : ∀ a : Act, (execOp a.eval { dst := some 0, op := Op.alloc 93, type := 0, pos := pos9, after := #[], guard := none }).run Tryz.prog w = .ok (.value (.pointer (some ⟨w.heap.size, 0, none⟩))) (w.alloc (.cells opsZ 93)) := by
   intro a
   simp [execOp, Instr.alloc, hz, Result.andThen, go_sem]
 rw [e1, Oper.upon_value]
 refine wpList_nil ?_
 show Code.wp _ _ _ _ _
 refine wp_seq (wp_region_lit ?_)
 rw [startA]
 refine wpList_pures _ _ (rop_vals _ perm 1) _ ?_
 refine wpList_one rfl ?_
 show Oper.upon _ _ (act1 _) _ _ ((execOp (act1 _).eval bop).run _ _)
 rw [bop_run, Oper.upon_value]
 refine wpList_one rfl ?_
 have e2 : ∀ a : Act, a.eval (.tmp 0) = .pointer (some ⟨w.heap.size, 0, none⟩) → a.eval (.tmp 60) = .agg opsV → (execOp a.eval sop).run Tryz.prog (w.alloc (.cells opsZ 93)) = .ok .skip (w.alloc (.cells opsV 93)) := by
   intro a h0 h1
   have := run_storeAt_new (P := Tryz.prog) w 93 opsZ opsV (by rw [hs, opsV_size]) (by rw [opsZ_size, opsV_size]) opsV_all
   simp only [execOp, sop, h0, h1, Sem.run_bind, this, Result.andThen, Sem.run_pure]
 rw [show bop.dst = some 60 from rfl, e2 _ (act1_0 _) (act1_60 _), Oper.upon_skip]
 refine wpList_nil ?_
 show Code.wp _ _ _ _ _
 refine wp_ret ?_
 refine bodyPost_ret (v := .agg opsV) ?_ ?_ ⟨rfl, rfl⟩
 · exact results_cell_row ops_res _ _ w.heap.size _ opsV (0, 0) _ (act2_0 _) (heap_alloc_last w _) ops_und rfl (by rw [hs, opsV_size])
 · exact act2_d _
end Go.Proofs.YtibhlcfligfhdaaGreat
