/-
  No cell of these rows narrows 'for every input' (looked for: loops, veiled, ifaces, maps, wideKeys, modest, calm, conditions, laid).
  DERIVED. THE GIVEN ROWS OF THIS SEAT. 5 by the template 'for every input the law returns true; each argument reads behind the call as it read before'; 0 by the template 'total and deterministic' (their statements: YtijkoblmoofhpaaTotals.lean).
  GIVEN WITH THE SEED: the statements are not yours to turn. If you find one false, say at which input.
  Laid BY PROGRAM, IN A SANDBOX (cutbox-rows.mjs): the forced cells as the released guide's own fill.sh prints them over the translation 5527cc258db03d4c… (all of the seat's roots in one cut). By AI agents, Wed Nov 11 2026. No macro, syntax, notation, axiom, sorry.
-/
import Derived.Test.YtijkoblmoofhpaaChecked
import GoSem.Claim
import GoSem.ClaimJoined
import GoSem.ClaimMapViews
import Derived.JoinedTies
import Derived.KernelRfl
namespace Go.Proofs.Ytijkoblmoofhpaa
/- THE CELL 'sum', in the pinned program and in every row, IS THE sha256 OF THE DUMP (.gsa) THAT YtijkoblmoofhpaaProg.lean LOADS. Nothing in Lean hashes anything: it is a label: what it is worth is what the hold of that sum in a sandbox is worth. -/
noncomputable def Try.pinned : Pinned := { name := "ytijkoblmoofhpaa", sum := "5527cc258db03d4c2851c82defbf2862da768479c3f7bfe6f8fbacb948e21898", checked := Try.checked }
namespace Rows
def none {H : Type} : Left H := { results := [], args := [] }

/-- 'playpenlaw07.IsaInfo': WHATEVER THE INPUT: true; the input reads as it did. -/
def isaInfoSpec : ChangeSpec := { name := "isaInfo", fn := fun _ => fun
  | [d] => { results := [.lit (.bool true)], args := [d] }
  | _ => none }
def isaInfoRow : OpenClaim := { program := "ytijkoblmoofhpaa", sum := "5527cc258db03d4c2851c82defbf2862da768479c3f7bfe6f8fbacb948e21898", func := "playpen/playpenlaw07.IsaInfo", spec := "isaInfo", apart := false }
def IsaInfoSaid : Prop := isaInfoRow.holds Try.pinned (OpenSpec.ofChange isaInfoSpec)

/-- ITS FALSE NEIGHBOUR: 'it returns false'. Refute it at one input. -/
def isaInfoWrong : ChangeSpec := { name := "isaInfo", fn := fun _ => fun
  | [d] => { results := [.lit (.bool false)], args := [d] }
  | _ => none }
def IsaInfoWrongFalsely : Prop := isaInfoRow.holds Try.pinned (OpenSpec.ofChange isaInfoWrong)

/-- 'playpenlaw07.IsaWord': WHATEVER THE INPUT: true; the input reads as it did. -/
def isaWordSpec : ChangeSpec := { name := "isaWord", fn := fun _ => fun
  | [d1, d2] => { results := [.lit (.bool true)], args := [d1, d2] }
  | _ => none }
def isaWordRow : OpenClaim := { program := "ytijkoblmoofhpaa", sum := "5527cc258db03d4c2851c82defbf2862da768479c3f7bfe6f8fbacb948e21898", func := "playpen/playpenlaw07.IsaWord", spec := "isaWord", apart := false }
def IsaWordSaid : Prop := isaWordRow.holds Try.pinned (OpenSpec.ofChange isaWordSpec)

/-- ITS FALSE NEIGHBOUR: 'it returns false'. Refute it at one input. -/
def isaWordWrong : ChangeSpec := { name := "isaWord", fn := fun _ => fun
  | [d1, d2] => { results := [.lit (.bool false)], args := [d1, d2] }
  | _ => none }
def IsaWordWrongFalsely : Prop := isaWordRow.holds Try.pinned (OpenSpec.ofChange isaWordWrong)

/-- 'playpenlaw07.IsaCheck': WHATEVER THE INPUT: true; the input reads as it did. -/
def isaCheckSpec : ChangeSpec := { name := "isaCheck", fn := fun _ => fun
  | [d] => { results := [.lit (.bool true)], args := [d] }
  | _ => none }
def isaCheckRow : OpenClaim := { program := "ytijkoblmoofhpaa", sum := "5527cc258db03d4c2851c82defbf2862da768479c3f7bfe6f8fbacb948e21898", func := "playpen/playpenlaw07.IsaCheck", spec := "isaCheck", apart := false }
def IsaCheckSaid : Prop := isaCheckRow.holds Try.pinned (OpenSpec.ofChange isaCheckSpec)

/-- ITS FALSE NEIGHBOUR: 'it returns false'. Refute it at one input. -/
def isaCheckWrong : ChangeSpec := { name := "isaCheck", fn := fun _ => fun
  | [d] => { results := [.lit (.bool false)], args := [d] }
  | _ => none }
def IsaCheckWrongFalsely : Prop := isaCheckRow.holds Try.pinned (OpenSpec.ofChange isaCheckWrong)

/-- 'playpenlaw07.IsaWords': WHATEVER THE INPUT: true; the input reads as it did. -/
def isaWordsSpec : ChangeSpec := { name := "isaWords", fn := fun _ => fun
  | [d1, d2] => { results := [.lit (.bool true)], args := [d1, d2] }
  | _ => none }
def isaWordsRow : OpenClaim := { program := "ytijkoblmoofhpaa", sum := "5527cc258db03d4c2851c82defbf2862da768479c3f7bfe6f8fbacb948e21898", func := "playpen/playpenlaw07.IsaWords", spec := "isaWords", apart := false }
def IsaWordsSaid : Prop := isaWordsRow.holds Try.pinned (OpenSpec.ofChange isaWordsSpec)

/-- ITS FALSE NEIGHBOUR: 'it returns false'. Refute it at one input. -/
def isaWordsWrong : ChangeSpec := { name := "isaWords", fn := fun _ => fun
  | [d1, d2] => { results := [.lit (.bool false)], args := [d1, d2] }
  | _ => none }
def IsaWordsWrongFalsely : Prop := isaWordsRow.holds Try.pinned (OpenSpec.ofChange isaWordsWrong)

/-- 'playpenlaw07.IsaKnown': WHATEVER THE INPUT: true; the input reads as it did. -/
def isaKnownSpec : ChangeSpec := { name := "isaKnown", fn := fun _ => fun
  | [] => { results := [.lit (.bool true)], args := [] }
  | _ => none }
def isaKnownRow : OpenClaim := { program := "ytijkoblmoofhpaa", sum := "5527cc258db03d4c2851c82defbf2862da768479c3f7bfe6f8fbacb948e21898", func := "playpen/playpenlaw07.IsaKnown", spec := "isaKnown", unfollowed := true, recurses := true, apart := false }
def IsaKnownSaid : Prop := isaKnownRow.holds Try.pinned (OpenSpec.ofChange isaKnownSpec)

/-- ITS FALSE NEIGHBOUR: 'it returns false'. Refute it at one input. -/
def isaKnownWrong : ChangeSpec := { name := "isaKnown", fn := fun _ => fun
  | [] => { results := [.lit (.bool false)], args := [] }
  | _ => none }
def IsaKnownWrongFalsely : Prop := isaKnownRow.holds Try.pinned (OpenSpec.ofChange isaKnownWrong)

/- THE SECOND FORM. 'bulk': how many values and letters a reading holds, each counted each time it is reached (what is shared counts as often as it is met; a slice's spare places count too). A statement '..UptoSaid' is the law's where the arguments, and the package variables that the reading takes, are together of bulk at most 1048576: NARROWER than '..Said'. Prove '..Said' where nothing that the law and all that it calls make is longer than what came in: it says more and counts as full. Else prove '..UptoSaid'. A law counts once. -/
mutual
def uptoBulk {H : Type} : DataW H → Nat
  | .lit (.string bytes) => bytes.length + 1
  | .lit _ => 1
  | .nil => 1
  | .ptr d => uptoBulk d + 1
  | .slice elems spare => uptoBulkAll elems + uptoBulkAll spare + 1
  | .agg parts => uptoBulkAll parts + 1
  | .iface _ d => uptoBulk d + 1
  | .map entries => uptoBulkEntries entries + 1
  | .held _ => 1
def uptoBulkAll {H : Type} : List (DataW H) → Nat
  | [] => 0
  | d :: r => uptoBulk d + uptoBulkAll r
def uptoBulkEntries {H : Type} : List (Lit × DataW H) → Nat
  | [] => 0
  | x :: r => uptoBulkEntry x + uptoBulkEntries r
def uptoBulkEntry {H : Type} : Lit × DataW H → Nat
  | (.string bytes, d) => bytes.length + uptoBulk d + 1
  | (_, d) => uptoBulk d + 1
 end
def uptoSmall : (H : Type) → List (DataW H) → Bool := fun _ ds => decide (uptoBulkAll ds ≤ 1048576)
def OpenSpec.upto (s : _root_.Go.ChangeSpec) : _root_.Go.OpenSpec := { _root_.Go.OpenSpec.ofChange s with cond := some uptoSmall }

/-- 'playpenlaw07.IsaInfo', WHERE WHAT IT READS IS OF BULK AT MOST 1048576: true; the input reads as it did. -/
def isaInfoUptoRow : OpenClaim := { program := "ytijkoblmoofhpaa", sum := "5527cc258db03d4c2851c82defbf2862da768479c3f7bfe6f8fbacb948e21898", func := "playpen/playpenlaw07.IsaInfo", spec := "isaInfo", apart := false, narrowed := true }
def IsaInfoUptoSaid : Prop := isaInfoUptoRow.holds Try.pinned (OpenSpec.upto isaInfoSpec)

/-- 'playpenlaw07.IsaWord', WHERE WHAT IT READS IS OF BULK AT MOST 1048576: true; the input reads as it did. -/
def isaWordUptoRow : OpenClaim := { program := "ytijkoblmoofhpaa", sum := "5527cc258db03d4c2851c82defbf2862da768479c3f7bfe6f8fbacb948e21898", func := "playpen/playpenlaw07.IsaWord", spec := "isaWord", apart := false, narrowed := true }
def IsaWordUptoSaid : Prop := isaWordUptoRow.holds Try.pinned (OpenSpec.upto isaWordSpec)

/-- 'playpenlaw07.IsaCheck', WHERE WHAT IT READS IS OF BULK AT MOST 1048576: true; the input reads as it did. -/
def isaCheckUptoRow : OpenClaim := { program := "ytijkoblmoofhpaa", sum := "5527cc258db03d4c2851c82defbf2862da768479c3f7bfe6f8fbacb948e21898", func := "playpen/playpenlaw07.IsaCheck", spec := "isaCheck", apart := false, narrowed := true }
def IsaCheckUptoSaid : Prop := isaCheckUptoRow.holds Try.pinned (OpenSpec.upto isaCheckSpec)

/-- 'playpenlaw07.IsaWords', WHERE WHAT IT READS IS OF BULK AT MOST 1048576: true; the input reads as it did. -/
def isaWordsUptoRow : OpenClaim := { program := "ytijkoblmoofhpaa", sum := "5527cc258db03d4c2851c82defbf2862da768479c3f7bfe6f8fbacb948e21898", func := "playpen/playpenlaw07.IsaWords", spec := "isaWords", apart := false, narrowed := true }
def IsaWordsUptoSaid : Prop := isaWordsUptoRow.holds Try.pinned (OpenSpec.upto isaWordsSpec)

/-- 'playpenlaw07.IsaKnown', WHERE WHAT IT READS IS OF BULK AT MOST 1048576: true; the input reads as it did. -/
def isaKnownUptoRow : OpenClaim := { program := "ytijkoblmoofhpaa", sum := "5527cc258db03d4c2851c82defbf2862da768479c3f7bfe6f8fbacb948e21898", func := "playpen/playpenlaw07.IsaKnown", spec := "isaKnown", unfollowed := true, recurses := true, apart := false, narrowed := true }
def IsaKnownUptoSaid : Prop := isaKnownUptoRow.holds Try.pinned (OpenSpec.upto isaKnownSpec)

end Rows
end Go.Proofs.Ytijkoblmoofhpaa
