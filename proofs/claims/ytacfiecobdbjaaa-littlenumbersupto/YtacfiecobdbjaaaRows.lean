/-
  No cell of these rows narrows 'for every input' (looked for: loops, veiled, ifaces, maps, wideKeys, modest, calm, conditions, laid).
  DERIVED. THE GIVEN ROWS OF THIS SEAT. 3 by the template 'for every input the law returns true; each argument reads behind the call as it read before'; 0 by the template 'total and deterministic' (their statements: YtacfiecobdbjaaaTotals.lean).
  GIVEN WITH THE SEED: the statements are not yours to turn. If you find one false, say at which input.
  Laid BY PROGRAM, IN A SANDBOX (cutbox-rows.mjs): the forced cells as the released guide's own fill.sh prints them over the translation f75b12914a12fea0… (all of the seat's roots in one cut). By AI agents, Wed Nov 11 2026. No macro, syntax, notation, axiom, sorry.
-/
import Derived.Test.YtacfiecobdbjaaaChecked
import GoSem.Claim
import GoSem.ClaimJoined
import GoSem.ClaimMapViews
import Derived.JoinedTies
import Derived.KernelRfl
namespace Go.Proofs.Ytacfiecobdbjaaa
/- THE CELL 'sum', in the pinned program and in every row, IS THE sha256 OF THE DUMP (.gsa) THAT YtacfiecobdbjaaaProg.lean LOADS. Nothing in Lean hashes anything: it is a label: what it is worth is what the hold of that sum in a sandbox is worth. -/
noncomputable def Try.pinned : Pinned := { name := "ytacfiecobdbjaaa", sum := "f75b12914a12fea0db01c46f4a4a615c5fa1d9dae6850c0cb066ab56892f5070", checked := Try.checked }
namespace Rows
def none {H : Type} : Left H := { results := [], args := [] }

/-- 'playpenlaw02.LittleNumbers': WHATEVER THE INPUT: true; the input reads as it did. -/
def littleNumbersSpec : ChangeSpec := { name := "littleNumbers", fn := fun _ => fun
  | [d] => { results := [.lit (.bool true)], args := [d] }
  | _ => none }
def littleNumbersRow : OpenClaim := { program := "ytacfiecobdbjaaa", sum := "f75b12914a12fea0db01c46f4a4a615c5fa1d9dae6850c0cb066ab56892f5070", func := "playpen/playpenlaw02.LittleNumbers", spec := "littleNumbers", apart := false }
def LittleNumbersSaid : Prop := littleNumbersRow.holds Try.pinned (OpenSpec.ofChange littleNumbersSpec)

/-- ITS FALSE NEIGHBOUR: 'it returns false'. Refute it at one input. -/
def littleNumbersWrong : ChangeSpec := { name := "littleNumbers", fn := fun _ => fun
  | [d] => { results := [.lit (.bool false)], args := [d] }
  | _ => none }
def LittleNumbersWrongFalsely : Prop := littleNumbersRow.holds Try.pinned (OpenSpec.ofChange littleNumbersWrong)

/-- 'playpenlaw02.LittleThere': WHATEVER THE INPUT: true; the input reads as it did. -/
def littleThereSpec : ChangeSpec := { name := "littleThere", fn := fun _ => fun
  | [d1, d2, d3] => { results := [.lit (.bool true)], args := [d1, d2, d3] }
  | _ => none }
def littleThereRow : OpenClaim := { program := "ytacfiecobdbjaaa", sum := "f75b12914a12fea0db01c46f4a4a615c5fa1d9dae6850c0cb066ab56892f5070", func := "playpen/playpenlaw02.LittleThere", spec := "littleThere", apart := false }
def LittleThereSaid : Prop := littleThereRow.holds Try.pinned (OpenSpec.ofChange littleThereSpec)

/-- ITS FALSE NEIGHBOUR: 'it returns false'. Refute it at one input. -/
def littleThereWrong : ChangeSpec := { name := "littleThere", fn := fun _ => fun
  | [d1, d2, d3] => { results := [.lit (.bool false)], args := [d1, d2, d3] }
  | _ => none }
def LittleThereWrongFalsely : Prop := littleThereRow.holds Try.pinned (OpenSpec.ofChange littleThereWrong)

/-- 'playpenlaw02.LittleOver': WHATEVER THE INPUT: true; the input reads as it did. -/
def littleOverSpec : ChangeSpec := { name := "littleOver", fn := fun _ => fun
  | [d1, d2, d3, d4] => { results := [.lit (.bool true)], args := [d1, d2, d3, d4] }
  | _ => none }
def littleOverRow : OpenClaim := { program := "ytacfiecobdbjaaa", sum := "f75b12914a12fea0db01c46f4a4a615c5fa1d9dae6850c0cb066ab56892f5070", func := "playpen/playpenlaw02.LittleOver", spec := "littleOver", apart := false }
def LittleOverSaid : Prop := littleOverRow.holds Try.pinned (OpenSpec.ofChange littleOverSpec)

/-- ITS FALSE NEIGHBOUR: 'it returns false'. Refute it at one input. -/
def littleOverWrong : ChangeSpec := { name := "littleOver", fn := fun _ => fun
  | [d1, d2, d3, d4] => { results := [.lit (.bool false)], args := [d1, d2, d3, d4] }
  | _ => none }
def LittleOverWrongFalsely : Prop := littleOverRow.holds Try.pinned (OpenSpec.ofChange littleOverWrong)

/- THE SECOND FORM. 'bulk': how many values and letters a reading holds, each counted each time it is reached (what is shared counts as often as it is met; a slice's spare places count too). A statement '..UptoSaid' is the law's where the arguments, and the package variables that the reading takes, are together of bulk at most 1048576: NARROWER than '..Said'. Prove '..Said' where nothing that the law and all that it calls make is longer than what came in: it says more and counts as full. Else prove '..UptoSaid'. A law counts once. -/
mutual
def uptoBulk {H : Type} : DataW H → Nat
  | .lit (.string bytes) => bytes.length + 1
  | .lit _ => 1
  | .nil => 1
  | .ptr d => uptoBulk d + 1
  | .slice elems spare => uptoBulkAll elems + uptoBulkAll spare + 1
  | .agg parts => uptoBulkAll parts + 1
  | .iface _ d => uptoBulk d + 1
  | .map entries => uptoBulkEntries entries + 1
  | .held _ => 1
def uptoBulkAll {H : Type} : List (DataW H) → Nat
  | [] => 0
  | d :: r => uptoBulk d + uptoBulkAll r
def uptoBulkEntries {H : Type} : List (Lit × DataW H) → Nat
  | [] => 0
  | x :: r => uptoBulkEntry x + uptoBulkEntries r
def uptoBulkEntry {H : Type} : Lit × DataW H → Nat
  | (.string bytes, d) => bytes.length + uptoBulk d + 1
  | (_, d) => uptoBulk d + 1
 end
def uptoSmall : (H : Type) → List (DataW H) → Bool := fun _ ds => decide (uptoBulkAll ds ≤ 1048576)
def OpenSpec.upto (s : _root_.Go.ChangeSpec) : _root_.Go.OpenSpec := { _root_.Go.OpenSpec.ofChange s with cond := some uptoSmall }

/-- 'playpenlaw02.LittleNumbers', WHERE WHAT IT READS IS OF BULK AT MOST 1048576: true; the input reads as it did. -/
def littleNumbersUptoRow : OpenClaim := { program := "ytacfiecobdbjaaa", sum := "f75b12914a12fea0db01c46f4a4a615c5fa1d9dae6850c0cb066ab56892f5070", func := "playpen/playpenlaw02.LittleNumbers", spec := "littleNumbers", apart := false, narrowed := true }
def LittleNumbersUptoSaid : Prop := littleNumbersUptoRow.holds Try.pinned (OpenSpec.upto littleNumbersSpec)

/-- 'playpenlaw02.LittleThere', WHERE WHAT IT READS IS OF BULK AT MOST 1048576: true; the input reads as it did. -/
def littleThereUptoRow : OpenClaim := { program := "ytacfiecobdbjaaa", sum := "f75b12914a12fea0db01c46f4a4a615c5fa1d9dae6850c0cb066ab56892f5070", func := "playpen/playpenlaw02.LittleThere", spec := "littleThere", apart := false, narrowed := true }
def LittleThereUptoSaid : Prop := littleThereUptoRow.holds Try.pinned (OpenSpec.upto littleThereSpec)

/-- 'playpenlaw02.LittleOver', WHERE WHAT IT READS IS OF BULK AT MOST 1048576: true; the input reads as it did. -/
def littleOverUptoRow : OpenClaim := { program := "ytacfiecobdbjaaa", sum := "f75b12914a12fea0db01c46f4a4a615c5fa1d9dae6850c0cb066ab56892f5070", func := "playpen/playpenlaw02.LittleOver", spec := "littleOver", apart := false, narrowed := true }
def LittleOverUptoSaid : Prop := littleOverUptoRow.holds Try.pinned (OpenSpec.upto littleOverSpec)

end Rows
end Go.Proofs.Ytacfiecobdbjaaa
