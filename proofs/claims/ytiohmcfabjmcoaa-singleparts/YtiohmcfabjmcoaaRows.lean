/-
  No cell of these rows narrows 'for every input' (looked for: loops, veiled, ifaces, maps, wideKeys, modest, calm, conditions, laid).
  DERIVED. THE GIVEN ROWS OF THIS SEAT. 3 by the template 'for every input the law returns true; each argument reads behind the call as it read before'; 0 by the template 'total and deterministic' (their statements: YtiohmcfabjmcoaaTotals.lean).
  GIVEN WITH THE SEED: the statements are not yours to turn. If you find one false, say at which input.
  Laid BY PROGRAM, IN A SANDBOX (cutbox-rows.mjs): the forced cells as the released guide's own fill.sh prints them over the translation 3b4b222de31da32b… (all of the seat's roots in one cut). By AI agents, Wed Nov 11 2026. No macro, syntax, notation, axiom, sorry.
-/
import Derived.Test.YtiohmcfabjmcoaaChecked
import GoSem.Claim
import GoSem.ClaimJoined
import GoSem.ClaimMapViews
import Derived.JoinedTies
import Derived.KernelRfl
namespace Go.Proofs.Ytiohmcfabjmcoaa
/- THE CELL 'sum', in the pinned program and in every row, IS THE sha256 OF THE DUMP (.gsa) THAT YtiohmcfabjmcoaaProg.lean LOADS. Nothing in Lean hashes anything: it is a label: what it is worth is what the hold of that sum in a sandbox is worth. -/
noncomputable def Try.pinned : Pinned := { name := "ytiohmcfabjmcoaa", sum := "3b4b222de31da32bee73817c798abd1a1193352c0ee58dba507c88c3756cf8ca", checked := Try.checked }
namespace Rows
def none {H : Type} : Left H := { results := [], args := [] }

/-- 'playpenlaw03.SingleParts': WHATEVER THE INPUT: true; the input reads as it did. -/
def singlePartsSpec : ChangeSpec := { name := "singleParts", fn := fun _ => fun
  | [d1, d2] => { results := [.lit (.bool true)], args := [d1, d2] }
  | _ => none }
def singlePartsRow : OpenClaim := { program := "ytiohmcfabjmcoaa", sum := "3b4b222de31da32bee73817c798abd1a1193352c0ee58dba507c88c3756cf8ca", func := "playpen/playpenlaw03.SingleParts", spec := "singleParts", apart := false }
def SinglePartsSaid : Prop := singlePartsRow.holds Try.pinned (OpenSpec.ofChange singlePartsSpec)

/-- ITS FALSE NEIGHBOUR: 'it returns false'. Refute it at one input. -/
def singlePartsWrong : ChangeSpec := { name := "singleParts", fn := fun _ => fun
  | [d1, d2] => { results := [.lit (.bool false)], args := [d1, d2] }
  | _ => none }
def SinglePartsWrongFalsely : Prop := singlePartsRow.holds Try.pinned (OpenSpec.ofChange singlePartsWrong)

/-- 'playpenlaw03.SingleSteps': WHATEVER THE INPUT: true; the input reads as it did. -/
def singleStepsSpec : ChangeSpec := { name := "singleSteps", fn := fun _ => fun
  | [d] => { results := [.lit (.bool true)], args := [d] }
  | _ => none }
def singleStepsRow : OpenClaim := { program := "ytiohmcfabjmcoaa", sum := "3b4b222de31da32bee73817c798abd1a1193352c0ee58dba507c88c3756cf8ca", func := "playpen/playpenlaw03.SingleSteps", spec := "singleSteps", apart := false }
def SingleStepsSaid : Prop := singleStepsRow.holds Try.pinned (OpenSpec.ofChange singleStepsSpec)

/-- ITS FALSE NEIGHBOUR: 'it returns false'. Refute it at one input. -/
def singleStepsWrong : ChangeSpec := { name := "singleSteps", fn := fun _ => fun
  | [d] => { results := [.lit (.bool false)], args := [d] }
  | _ => none }
def SingleStepsWrongFalsely : Prop := singleStepsRow.holds Try.pinned (OpenSpec.ofChange singleStepsWrong)

/-- 'playpenlaw03.SingleBack': WHATEVER THE INPUT: true; the input reads as it did. -/
def singleBackSpec : ChangeSpec := { name := "singleBack", fn := fun _ => fun
  | [d1, d2] => { results := [.lit (.bool true)], args := [d1, d2] }
  | _ => none }
def singleBackRow : OpenClaim := { program := "ytiohmcfabjmcoaa", sum := "3b4b222de31da32bee73817c798abd1a1193352c0ee58dba507c88c3756cf8ca", func := "playpen/playpenlaw03.SingleBack", spec := "singleBack", inPlace := ["math.Float32frombits", "math.Float64bits", "math.Float64frombits", "math.Float32bits", "math.sqrt"], apart := false }
def SingleBackSaid : Prop := singleBackRow.holds Try.pinned (OpenSpec.ofChange singleBackSpec)

/-- ITS FALSE NEIGHBOUR: 'it returns false'. Refute it at one input. -/
def singleBackWrong : ChangeSpec := { name := "singleBack", fn := fun _ => fun
  | [d1, d2] => { results := [.lit (.bool false)], args := [d1, d2] }
  | _ => none }
def SingleBackWrongFalsely : Prop := singleBackRow.holds Try.pinned (OpenSpec.ofChange singleBackWrong)

/- THE SECOND FORM. 'bulk': how many values and letters a reading holds, each counted each time it is reached (what is shared counts as often as it is met; a slice's spare places count too). A statement '..UptoSaid' is the law's where the arguments, and the package variables that the reading takes, are together of bulk at most 1048576: NARROWER than '..Said'. Prove '..Said' where nothing that the law and all that it calls make is longer than what came in: it says more and counts as full. Else prove '..UptoSaid'. A law counts once. -/
mutual
def uptoBulk {H : Type} : DataW H → Nat
  | .lit (.string bytes) => bytes.length + 1
  | .lit _ => 1
  | .nil => 1
  | .ptr d => uptoBulk d + 1
  | .slice elems spare => uptoBulkAll elems + uptoBulkAll spare + 1
  | .agg parts => uptoBulkAll parts + 1
  | .iface _ d => uptoBulk d + 1
  | .map entries => uptoBulkEntries entries + 1
  | .held _ => 1
def uptoBulkAll {H : Type} : List (DataW H) → Nat
  | [] => 0
  | d :: r => uptoBulk d + uptoBulkAll r
def uptoBulkEntries {H : Type} : List (Lit × DataW H) → Nat
  | [] => 0
  | x :: r => uptoBulkEntry x + uptoBulkEntries r
def uptoBulkEntry {H : Type} : Lit × DataW H → Nat
  | (.string bytes, d) => bytes.length + uptoBulk d + 1
  | (_, d) => uptoBulk d + 1
 end
def uptoSmall : (H : Type) → List (DataW H) → Bool := fun _ ds => decide (uptoBulkAll ds ≤ 1048576)
def OpenSpec.upto (s : _root_.Go.ChangeSpec) : _root_.Go.OpenSpec := { _root_.Go.OpenSpec.ofChange s with cond := some uptoSmall }

/-- 'playpenlaw03.SingleParts', WHERE WHAT IT READS IS OF BULK AT MOST 1048576: true; the input reads as it did. -/
def singlePartsUptoRow : OpenClaim := { program := "ytiohmcfabjmcoaa", sum := "3b4b222de31da32bee73817c798abd1a1193352c0ee58dba507c88c3756cf8ca", func := "playpen/playpenlaw03.SingleParts", spec := "singleParts", apart := false, narrowed := true }
def SinglePartsUptoSaid : Prop := singlePartsUptoRow.holds Try.pinned (OpenSpec.upto singlePartsSpec)

/-- 'playpenlaw03.SingleSteps', WHERE WHAT IT READS IS OF BULK AT MOST 1048576: true; the input reads as it did. -/
def singleStepsUptoRow : OpenClaim := { program := "ytiohmcfabjmcoaa", sum := "3b4b222de31da32bee73817c798abd1a1193352c0ee58dba507c88c3756cf8ca", func := "playpen/playpenlaw03.SingleSteps", spec := "singleSteps", apart := false, narrowed := true }
def SingleStepsUptoSaid : Prop := singleStepsUptoRow.holds Try.pinned (OpenSpec.upto singleStepsSpec)

/-- 'playpenlaw03.SingleBack', WHERE WHAT IT READS IS OF BULK AT MOST 1048576: true; the input reads as it did. -/
def singleBackUptoRow : OpenClaim := { program := "ytiohmcfabjmcoaa", sum := "3b4b222de31da32bee73817c798abd1a1193352c0ee58dba507c88c3756cf8ca", func := "playpen/playpenlaw03.SingleBack", spec := "singleBack", inPlace := ["math.Float32frombits", "math.Float64bits", "math.Float64frombits", "math.Float32bits", "math.sqrt"], apart := false, narrowed := true }
def SingleBackUptoSaid : Prop := singleBackUptoRow.holds Try.pinned (OpenSpec.upto singleBackSpec)

end Rows
end Go.Proofs.Ytiohmcfabjmcoaa
