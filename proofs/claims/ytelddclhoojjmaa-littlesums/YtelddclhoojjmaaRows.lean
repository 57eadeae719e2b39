/-
  No cell of these rows narrows 'for every input' (looked for: loops, veiled, ifaces, maps, wideKeys, modest, calm, conditions, laid).
  DERIVED. THE GIVEN ROWS OF THIS SEAT. 3 by the template 'for every input the law returns true; each argument reads behind the call as it read before'; 0 by the template 'total and deterministic' (their statements: YtelddclhoojjmaaTotals.lean).
  GIVEN WITH THE SEED: the statements are not yours to turn. If you find one false, say at which input.
  Laid BY PROGRAM, IN A SANDBOX (cutbox-rows.mjs): the forced cells as the released guide's own fill.sh prints them over the translation e8c187878ba6cd47… (all of the seat's roots in one cut). By AI agents, Wed Nov 11 2026. No macro, syntax, notation, axiom, sorry.
-/
import Derived.Test.YtelddclhoojjmaaChecked
import GoSem.Claim
import GoSem.ClaimJoined
import GoSem.ClaimMapViews
import Derived.JoinedTies
import Derived.KernelRfl
namespace Go.Proofs.Ytelddclhoojjmaa
/- THE CELL 'sum', in the pinned program and in every row, IS THE sha256 OF THE DUMP (.gsa) THAT YtelddclhoojjmaaProg.lean LOADS. Nothing in Lean hashes anything: it is a label: what it is worth is what the hold of that sum in a sandbox is worth. -/
noncomputable def Try.pinned : Pinned := { name := "ytelddclhoojjmaa", sum := "e8c187878ba6cd47d742a3ae40d48bda0a348c926ab68e7ea956fa6d96e09332", checked := Try.checked }
namespace Rows
def none {H : Type} : Left H := { results := [], args := [] }

/-- 'playpenlaw02.LittleSums': WHATEVER THE INPUT: true; the input reads as it did. -/
def littleSumsSpec : ChangeSpec := { name := "littleSums", fn := fun _ => fun
  | [d] => { results := [.lit (.bool true)], args := [d] }
  | _ => none }
def littleSumsRow : OpenClaim := { program := "ytelddclhoojjmaa", sum := "e8c187878ba6cd47d742a3ae40d48bda0a348c926ab68e7ea956fa6d96e09332", func := "playpen/playpenlaw02.LittleSums", spec := "littleSums", apart := false }
def LittleSumsSaid : Prop := littleSumsRow.holds Try.pinned (OpenSpec.ofChange littleSumsSpec)

/-- ITS FALSE NEIGHBOUR: 'it returns false'. Refute it at one input. -/
def littleSumsWrong : ChangeSpec := { name := "littleSums", fn := fun _ => fun
  | [d] => { results := [.lit (.bool false)], args := [d] }
  | _ => none }
def LittleSumsWrongFalsely : Prop := littleSumsRow.holds Try.pinned (OpenSpec.ofChange littleSumsWrong)

/-- 'playpenlaw02.LittleJoins': WHATEVER THE INPUT: true; the input reads as it did. -/
def littleJoinsSpec : ChangeSpec := { name := "littleJoins", fn := fun _ => fun
  | [d1, d2] => { results := [.lit (.bool true)], args := [d1, d2] }
  | _ => none }
def littleJoinsRow : OpenClaim := { program := "ytelddclhoojjmaa", sum := "e8c187878ba6cd47d742a3ae40d48bda0a348c926ab68e7ea956fa6d96e09332", func := "playpen/playpenlaw02.LittleJoins", spec := "littleJoins", apart := false }
def LittleJoinsSaid : Prop := littleJoinsRow.holds Try.pinned (OpenSpec.ofChange littleJoinsSpec)

/-- ITS FALSE NEIGHBOUR: 'it returns false'. Refute it at one input. -/
def littleJoinsWrong : ChangeSpec := { name := "littleJoins", fn := fun _ => fun
  | [d1, d2] => { results := [.lit (.bool false)], args := [d1, d2] }
  | _ => none }
def LittleJoinsWrongFalsely : Prop := littleJoinsRow.holds Try.pinned (OpenSpec.ofChange littleJoinsWrong)

/-- 'playpenlaw02.LittleTurned': WHATEVER THE INPUT: true; the input reads as it did. -/
def littleTurnedSpec : ChangeSpec := { name := "littleTurned", fn := fun _ => fun
  | [d1, d2, d3] => { results := [.lit (.bool true)], args := [d1, d2, d3] }
  | _ => none }
def littleTurnedRow : OpenClaim := { program := "ytelddclhoojjmaa", sum := "e8c187878ba6cd47d742a3ae40d48bda0a348c926ab68e7ea956fa6d96e09332", func := "playpen/playpenlaw02.LittleTurned", spec := "littleTurned", apart := false }
def LittleTurnedSaid : Prop := littleTurnedRow.holds Try.pinned (OpenSpec.ofChange littleTurnedSpec)

/-- ITS FALSE NEIGHBOUR: 'it returns false'. Refute it at one input. -/
def littleTurnedWrong : ChangeSpec := { name := "littleTurned", fn := fun _ => fun
  | [d1, d2, d3] => { results := [.lit (.bool false)], args := [d1, d2, d3] }
  | _ => none }
def LittleTurnedWrongFalsely : Prop := littleTurnedRow.holds Try.pinned (OpenSpec.ofChange littleTurnedWrong)

/- THE SECOND FORM. 'bulk': how many values and letters a reading holds, each counted each time it is reached (what is shared counts as often as it is met; a slice's spare places count too). A statement '..UptoSaid' is the law's where the arguments, and the package variables that the reading takes, are together of bulk at most 1048576: NARROWER than '..Said'. Prove '..Said' where nothing that the law and all that it calls make is longer than what came in: it says more and counts as full. Else prove '..UptoSaid'. A law counts once. -/
mutual
def uptoBulk {H : Type} : DataW H → Nat
  | .lit (.string bytes) => bytes.length + 1
  | .lit _ => 1
  | .nil => 1
  | .ptr d => uptoBulk d + 1
  | .slice elems spare => uptoBulkAll elems + uptoBulkAll spare + 1
  | .agg parts => uptoBulkAll parts + 1
  | .iface _ d => uptoBulk d + 1
  | .map entries => uptoBulkEntries entries + 1
  | .held _ => 1
def uptoBulkAll {H : Type} : List (DataW H) → Nat
  | [] => 0
  | d :: r => uptoBulk d + uptoBulkAll r
def uptoBulkEntries {H : Type} : List (Lit × DataW H) → Nat
  | [] => 0
  | x :: r => uptoBulkEntry x + uptoBulkEntries r
def uptoBulkEntry {H : Type} : Lit × DataW H → Nat
  | (.string bytes, d) => bytes.length + uptoBulk d + 1
  | (_, d) => uptoBulk d + 1
 end
def uptoSmall : (H : Type) → List (DataW H) → Bool := fun _ ds => decide (uptoBulkAll ds ≤ 1048576)
def OpenSpec.upto (s : _root_.Go.ChangeSpec) : _root_.Go.OpenSpec := { _root_.Go.OpenSpec.ofChange s with cond := some uptoSmall }

/-- 'playpenlaw02.LittleSums', WHERE WHAT IT READS IS OF BULK AT MOST 1048576: true; the input reads as it did. -/
def littleSumsUptoRow : OpenClaim := { program := "ytelddclhoojjmaa", sum := "e8c187878ba6cd47d742a3ae40d48bda0a348c926ab68e7ea956fa6d96e09332", func := "playpen/playpenlaw02.LittleSums", spec := "littleSums", apart := false, narrowed := true }
def LittleSumsUptoSaid : Prop := littleSumsUptoRow.holds Try.pinned (OpenSpec.upto littleSumsSpec)

/-- 'playpenlaw02.LittleJoins', WHERE WHAT IT READS IS OF BULK AT MOST 1048576: true; the input reads as it did. -/
def littleJoinsUptoRow : OpenClaim := { program := "ytelddclhoojjmaa", sum := "e8c187878ba6cd47d742a3ae40d48bda0a348c926ab68e7ea956fa6d96e09332", func := "playpen/playpenlaw02.LittleJoins", spec := "littleJoins", apart := false, narrowed := true }
def LittleJoinsUptoSaid : Prop := littleJoinsUptoRow.holds Try.pinned (OpenSpec.upto littleJoinsSpec)

/-- 'playpenlaw02.LittleTurned', WHERE WHAT IT READS IS OF BULK AT MOST 1048576: true; the input reads as it did. -/
def littleTurnedUptoRow : OpenClaim := { program := "ytelddclhoojjmaa", sum := "e8c187878ba6cd47d742a3ae40d48bda0a348c926ab68e7ea956fa6d96e09332", func := "playpen/playpenlaw02.LittleTurned", spec := "littleTurned", apart := false, narrowed := true }
def LittleTurnedUptoSaid : Prop := littleTurnedUptoRow.holds Try.pinned (OpenSpec.upto littleTurnedSpec)

end Rows
end Go.Proofs.Ytelddclhoojjmaa
