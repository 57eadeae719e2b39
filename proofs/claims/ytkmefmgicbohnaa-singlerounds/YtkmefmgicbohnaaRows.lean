/-
  No cell of these rows narrows 'for every input' (looked for: loops, veiled, ifaces, maps, wideKeys, modest, calm, conditions, laid).
  DERIVED. THE GIVEN ROWS OF THIS SEAT. 3 by the template 'for every input the law returns true; each argument reads behind the call as it read before'; 0 by the template 'total and deterministic' (their statements: YtkmefmgicbohnaaTotals.lean).
  GIVEN WITH THE SEED: the statements are not yours to turn. If you find one false, say at which input.
  Laid BY PROGRAM, IN A SANDBOX (cutbox-rows.mjs): the forced cells as the released guide's own fill.sh prints them over the translation 0b6c85c6063c40af… (all of the seat's roots in one cut). By AI agents, Wed Nov 11 2026. No macro, syntax, notation, axiom, sorry.
-/
import Derived.Test.YtkmefmgicbohnaaChecked
import GoSem.Claim
import GoSem.ClaimJoined
import GoSem.ClaimMapViews
import Derived.JoinedTies
import Derived.KernelRfl
namespace Go.Proofs.Ytkmefmgicbohnaa
/- THE CELL 'sum', in the pinned program and in every row, IS THE sha256 OF THE DUMP (.gsa) THAT YtkmefmgicbohnaaProg.lean LOADS. Nothing in Lean hashes anything: it is a label: what it is worth is what the hold of that sum in a sandbox is worth. -/
noncomputable def Try.pinned : Pinned := { name := "ytkmefmgicbohnaa", sum := "0b6c85c6063c40aff8a6b8ff1c51bc14e3f6a0f35af84801e6c78750d4bc3720", checked := Try.checked }
namespace Rows
def none {H : Type} : Left H := { results := [], args := [] }

/-- 'playpenlaw03.SingleRounds': WHATEVER THE INPUT: true; the input reads as it did. -/
def singleRoundsSpec : ChangeSpec := { name := "singleRounds", fn := fun _ => fun
  | [d] => { results := [.lit (.bool true)], args := [d] }
  | _ => none }
def singleRoundsRow : OpenClaim := { program := "ytkmefmgicbohnaa", sum := "0b6c85c6063c40aff8a6b8ff1c51bc14e3f6a0f35af84801e6c78750d4bc3720", func := "playpen/playpenlaw03.SingleRounds", spec := "singleRounds", apart := false }
def SingleRoundsSaid : Prop := singleRoundsRow.holds Try.pinned (OpenSpec.ofChange singleRoundsSpec)

/-- ITS FALSE NEIGHBOUR: 'it returns false'. Refute it at one input. -/
def singleRoundsWrong : ChangeSpec := { name := "singleRounds", fn := fun _ => fun
  | [d] => { results := [.lit (.bool false)], args := [d] }
  | _ => none }
def SingleRoundsWrongFalsely : Prop := singleRoundsRow.holds Try.pinned (OpenSpec.ofChange singleRoundsWrong)

/-- 'playpenlaw03.SingleRatios': WHATEVER THE INPUT: true; the input reads as it did. -/
def singleRatiosSpec : ChangeSpec := { name := "singleRatios", fn := fun _ => fun
  | [d1, d2] => { results := [.lit (.bool true)], args := [d1, d2] }
  | _ => none }
def singleRatiosRow : OpenClaim := { program := "ytkmefmgicbohnaa", sum := "0b6c85c6063c40aff8a6b8ff1c51bc14e3f6a0f35af84801e6c78750d4bc3720", func := "playpen/playpenlaw03.SingleRatios", spec := "singleRatios", inPlace := ["math.Float32frombits", "math.Float32bits"], apart := false }
def SingleRatiosSaid : Prop := singleRatiosRow.holds Try.pinned (OpenSpec.ofChange singleRatiosSpec)

/-- ITS FALSE NEIGHBOUR: 'it returns false'. Refute it at one input. -/
def singleRatiosWrong : ChangeSpec := { name := "singleRatios", fn := fun _ => fun
  | [d1, d2] => { results := [.lit (.bool false)], args := [d1, d2] }
  | _ => none }
def SingleRatiosWrongFalsely : Prop := singleRatiosRow.holds Try.pinned (OpenSpec.ofChange singleRatiosWrong)

/-- 'playpenlaw03.SingleRoots': WHATEVER THE INPUT: true; the input reads as it did. -/
def singleRootsSpec : ChangeSpec := { name := "singleRoots", fn := fun _ => fun
  | [d] => { results := [.lit (.bool true)], args := [d] }
  | _ => none }
def singleRootsRow : OpenClaim := { program := "ytkmefmgicbohnaa", sum := "0b6c85c6063c40aff8a6b8ff1c51bc14e3f6a0f35af84801e6c78750d4bc3720", func := "playpen/playpenlaw03.SingleRoots", spec := "singleRoots", inPlace := ["math.Float32frombits", "math.sqrt", "math.Float32bits"], apart := false }
def SingleRootsSaid : Prop := singleRootsRow.holds Try.pinned (OpenSpec.ofChange singleRootsSpec)

/-- ITS FALSE NEIGHBOUR: 'it returns false'. Refute it at one input. -/
def singleRootsWrong : ChangeSpec := { name := "singleRoots", fn := fun _ => fun
  | [d] => { results := [.lit (.bool false)], args := [d] }
  | _ => none }
def SingleRootsWrongFalsely : Prop := singleRootsRow.holds Try.pinned (OpenSpec.ofChange singleRootsWrong)

/- THE SECOND FORM. 'bulk': how many values and letters a reading holds, each counted each time it is reached (what is shared counts as often as it is met; a slice's spare places count too). A statement '..UptoSaid' is the law's where the arguments, and the package variables that the reading takes, are together of bulk at most 1048576: NARROWER than '..Said'. Prove '..Said' where nothing that the law and all that it calls make is longer than what came in: it says more and counts as full. Else prove '..UptoSaid'. A law counts once. -/
mutual
def uptoBulk {H : Type} : DataW H → Nat
  | .lit (.string bytes) => bytes.length + 1
  | .lit _ => 1
  | .nil => 1
  | .ptr d => uptoBulk d + 1
  | .slice elems spare => uptoBulkAll elems + uptoBulkAll spare + 1
  | .agg parts => uptoBulkAll parts + 1
  | .iface _ d => uptoBulk d + 1
  | .map entries => uptoBulkEntries entries + 1
  | .held _ => 1
def uptoBulkAll {H : Type} : List (DataW H) → Nat
  | [] => 0
  | d :: r => uptoBulk d + uptoBulkAll r
def uptoBulkEntries {H : Type} : List (Lit × DataW H) → Nat
  | [] => 0
  | x :: r => uptoBulkEntry x + uptoBulkEntries r
def uptoBulkEntry {H : Type} : Lit × DataW H → Nat
  | (.string bytes, d) => bytes.length + uptoBulk d + 1
  | (_, d) => uptoBulk d + 1
 end
def uptoSmall : (H : Type) → List (DataW H) → Bool := fun _ ds => decide (uptoBulkAll ds ≤ 1048576)
def OpenSpec.upto (s : _root_.Go.ChangeSpec) : _root_.Go.OpenSpec := { _root_.Go.OpenSpec.ofChange s with cond := some uptoSmall }

/-- 'playpenlaw03.SingleRounds', WHERE WHAT IT READS IS OF BULK AT MOST 1048576: true; the input reads as it did. -/
def singleRoundsUptoRow : OpenClaim := { program := "ytkmefmgicbohnaa", sum := "0b6c85c6063c40aff8a6b8ff1c51bc14e3f6a0f35af84801e6c78750d4bc3720", func := "playpen/playpenlaw03.SingleRounds", spec := "singleRounds", apart := false, narrowed := true }
def SingleRoundsUptoSaid : Prop := singleRoundsUptoRow.holds Try.pinned (OpenSpec.upto singleRoundsSpec)

/-- 'playpenlaw03.SingleRatios', WHERE WHAT IT READS IS OF BULK AT MOST 1048576: true; the input reads as it did. -/
def singleRatiosUptoRow : OpenClaim := { program := "ytkmefmgicbohnaa", sum := "0b6c85c6063c40aff8a6b8ff1c51bc14e3f6a0f35af84801e6c78750d4bc3720", func := "playpen/playpenlaw03.SingleRatios", spec := "singleRatios", inPlace := ["math.Float32frombits", "math.Float32bits"], apart := false, narrowed := true }
def SingleRatiosUptoSaid : Prop := singleRatiosUptoRow.holds Try.pinned (OpenSpec.upto singleRatiosSpec)

/-- 'playpenlaw03.SingleRoots', WHERE WHAT IT READS IS OF BULK AT MOST 1048576: true; the input reads as it did. -/
def singleRootsUptoRow : OpenClaim := { program := "ytkmefmgicbohnaa", sum := "0b6c85c6063c40aff8a6b8ff1c51bc14e3f6a0f35af84801e6c78750d4bc3720", func := "playpen/playpenlaw03.SingleRoots", spec := "singleRoots", inPlace := ["math.Float32frombits", "math.sqrt", "math.Float32bits"], apart := false, narrowed := true }
def SingleRootsUptoSaid : Prop := singleRootsUptoRow.holds Try.pinned (OpenSpec.upto singleRootsSpec)

end Rows
end Go.Proofs.Ytkmefmgicbohnaa
