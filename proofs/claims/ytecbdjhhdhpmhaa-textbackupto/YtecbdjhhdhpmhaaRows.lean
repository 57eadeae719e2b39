/-
  No cell of these rows narrows 'for every input' (looked for: loops, veiled, ifaces, maps, wideKeys, modest, calm, conditions, laid).
  DERIVED. THE GIVEN ROWS OF THIS SEAT. 4 by the template 'for every input the law returns true; each argument reads behind the call as it read before'; 0 by the template 'total and deterministic' (their statements: YtecbdjhhdhpmhaaTotals.lean).
  GIVEN WITH THE SEED: the statements are not yours to turn. If you find one false, say at which input.
  Laid BY PROGRAM, IN A SANDBOX (cutbox-rows.mjs): the forced cells as the released guide's own fill.sh prints them over the translation 11481aeee420fe20… (all of the seat's roots in one cut). By AI agents, Wed Nov 11 2026. No macro, syntax, notation, axiom, sorry.
-/
import Derived.Test.YtecbdjhhdhpmhaaChecked
import GoSem.Claim
import GoSem.ClaimJoined
import GoSem.ClaimMapViews
import Derived.JoinedTies
import Derived.KernelRfl
namespace Go.Proofs.Ytecbdjhhdhpmhaa
/- THE CELL 'sum', in the pinned program and in every row, IS THE sha256 OF THE DUMP (.gsa) THAT YtecbdjhhdhpmhaaProg.lean LOADS. Nothing in Lean hashes anything: it is a label: what it is worth is what the hold of that sum in a sandbox is worth. -/
noncomputable def Try.pinned : Pinned := { name := "ytecbdjhhdhpmhaa", sum := "11481aeee420fe2091a59f0a3315fb13086553bf3e12ecb443dcc1c65faa8f4e", checked := Try.checked }
namespace Rows
def none {H : Type} : Left H := { results := [], args := [] }

/-- 'playpenlaw01.TextShow': WHATEVER THE INPUT: true; the input reads as it did. -/
def textShowSpec : ChangeSpec := { name := "textShow", fn := fun _ => fun
  | [d] => { results := [.lit (.bool true)], args := [d] }
  | _ => none }
def textShowRow : OpenClaim := { program := "ytecbdjhhdhpmhaa", sum := "11481aeee420fe2091a59f0a3315fb13086553bf3e12ecb443dcc1c65faa8f4e", func := "playpen/playpenlaw01.TextShow", spec := "textShow", inPlace := ["internal/bytealg.IndexByteString"], apart := false }
def TextShowSaid : Prop := textShowRow.holds Try.pinned (OpenSpec.ofChange textShowSpec)

/-- ITS FALSE NEIGHBOUR: 'it returns false'. Refute it at one input. -/
def textShowWrong : ChangeSpec := { name := "textShow", fn := fun _ => fun
  | [d] => { results := [.lit (.bool false)], args := [d] }
  | _ => none }
def TextShowWrongFalsely : Prop := textShowRow.holds Try.pinned (OpenSpec.ofChange textShowWrong)

/-- 'playpenlaw01.TextBytes': WHATEVER THE INPUT: true; the input reads as it did. -/
def textBytesSpec : ChangeSpec := { name := "textBytes", fn := fun _ => fun
  | [d1, d2] => { results := [.lit (.bool true)], args := [d1, d2] }
  | _ => none }
def textBytesRow : OpenClaim := { program := "ytecbdjhhdhpmhaa", sum := "11481aeee420fe2091a59f0a3315fb13086553bf3e12ecb443dcc1c65faa8f4e", func := "playpen/playpenlaw01.TextBytes", spec := "textBytes", inPlace := ["internal/bytealg.IndexByteString"], unfollowed := true, recurses := true, apart := false }
def TextBytesSaid : Prop := textBytesRow.holds Try.pinned (OpenSpec.ofChange textBytesSpec)

/-- ITS FALSE NEIGHBOUR: 'it returns false'. Refute it at one input. -/
def textBytesWrong : ChangeSpec := { name := "textBytes", fn := fun _ => fun
  | [d1, d2] => { results := [.lit (.bool false)], args := [d1, d2] }
  | _ => none }
def TextBytesWrongFalsely : Prop := textBytesRow.holds Try.pinned (OpenSpec.ofChange textBytesWrong)

/-- 'playpenlaw01.TextRune': WHATEVER THE INPUT: true; the input reads as it did. -/
def textRuneSpec : ChangeSpec := { name := "textRune", fn := fun _ => fun
  | [d] => { results := [.lit (.bool true)], args := [d] }
  | _ => none }
def textRuneRow : OpenClaim := { program := "ytecbdjhhdhpmhaa", sum := "11481aeee420fe2091a59f0a3315fb13086553bf3e12ecb443dcc1c65faa8f4e", func := "playpen/playpenlaw01.TextRune", spec := "textRune", inPlace := ["internal/bytealg.IndexByteString"], unfollowed := true, recurses := true, apart := false }
def TextRuneSaid : Prop := textRuneRow.holds Try.pinned (OpenSpec.ofChange textRuneSpec)

/-- ITS FALSE NEIGHBOUR: 'it returns false'. Refute it at one input. -/
def textRuneWrong : ChangeSpec := { name := "textRune", fn := fun _ => fun
  | [d] => { results := [.lit (.bool false)], args := [d] }
  | _ => none }
def TextRuneWrongFalsely : Prop := textRuneRow.holds Try.pinned (OpenSpec.ofChange textRuneWrong)

/-- 'playpenlaw01.TextBack': WHATEVER THE INPUT: true; the input reads as it did. -/
def textBackSpec : ChangeSpec := { name := "textBack", fn := fun _ => fun
  | [d] => { results := [.lit (.bool true)], args := [d] }
  | _ => none }
def textBackRow : OpenClaim := { program := "ytecbdjhhdhpmhaa", sum := "11481aeee420fe2091a59f0a3315fb13086553bf3e12ecb443dcc1c65faa8f4e", func := "playpen/playpenlaw01.TextBack", spec := "textBack", inPlace := ["internal/bytealg.IndexByteString"], unfollowed := true, recurses := true, apart := false }
def TextBackSaid : Prop := textBackRow.holds Try.pinned (OpenSpec.ofChange textBackSpec)

/-- ITS FALSE NEIGHBOUR: 'it returns false'. Refute it at one input. -/
def textBackWrong : ChangeSpec := { name := "textBack", fn := fun _ => fun
  | [d] => { results := [.lit (.bool false)], args := [d] }
  | _ => none }
def TextBackWrongFalsely : Prop := textBackRow.holds Try.pinned (OpenSpec.ofChange textBackWrong)

/- THE SECOND FORM. 'bulk': how many values and letters a reading holds, each counted each time it is reached (what is shared counts as often as it is met; a slice's spare places count too). A statement '..UptoSaid' is the law's where the arguments, and the package variables that the reading takes, are together of bulk at most 1048576: NARROWER than '..Said'. Prove '..Said' where nothing that the law and all that it calls make is longer than what came in: it says more and counts as full. Else prove '..UptoSaid'. A law counts once. -/
mutual
def uptoBulk {H : Type} : DataW H → Nat
  | .lit (.string bytes) => bytes.length + 1
  | .lit _ => 1
  | .nil => 1
  | .ptr d => uptoBulk d + 1
  | .slice elems spare => uptoBulkAll elems + uptoBulkAll spare + 1
  | .agg parts => uptoBulkAll parts + 1
  | .iface _ d => uptoBulk d + 1
  | .map entries => uptoBulkEntries entries + 1
  | .held _ => 1
def uptoBulkAll {H : Type} : List (DataW H) → Nat
  | [] => 0
  | d :: r => uptoBulk d + uptoBulkAll r
def uptoBulkEntries {H : Type} : List (Lit × DataW H) → Nat
  | [] => 0
  | x :: r => uptoBulkEntry x + uptoBulkEntries r
def uptoBulkEntry {H : Type} : Lit × DataW H → Nat
  | (.string bytes, d) => bytes.length + uptoBulk d + 1
  | (_, d) => uptoBulk d + 1
 end
def uptoSmall : (H : Type) → List (DataW H) → Bool := fun _ ds => decide (uptoBulkAll ds ≤ 1048576)
def OpenSpec.upto (s : _root_.Go.ChangeSpec) : _root_.Go.OpenSpec := { _root_.Go.OpenSpec.ofChange s with cond := some uptoSmall }

/-- 'playpenlaw01.TextShow', WHERE WHAT IT READS IS OF BULK AT MOST 1048576: true; the input reads as it did. -/
def textShowUptoRow : OpenClaim := { program := "ytecbdjhhdhpmhaa", sum := "11481aeee420fe2091a59f0a3315fb13086553bf3e12ecb443dcc1c65faa8f4e", func := "playpen/playpenlaw01.TextShow", spec := "textShow", inPlace := ["internal/bytealg.IndexByteString"], apart := false, narrowed := true }
def TextShowUptoSaid : Prop := textShowUptoRow.holds Try.pinned (OpenSpec.upto textShowSpec)

/-- 'playpenlaw01.TextBytes', WHERE WHAT IT READS IS OF BULK AT MOST 1048576: true; the input reads as it did. -/
def textBytesUptoRow : OpenClaim := { program := "ytecbdjhhdhpmhaa", sum := "11481aeee420fe2091a59f0a3315fb13086553bf3e12ecb443dcc1c65faa8f4e", func := "playpen/playpenlaw01.TextBytes", spec := "textBytes", inPlace := ["internal/bytealg.IndexByteString"], unfollowed := true, recurses := true, apart := false, narrowed := true }
def TextBytesUptoSaid : Prop := textBytesUptoRow.holds Try.pinned (OpenSpec.upto textBytesSpec)

/-- 'playpenlaw01.TextRune', WHERE WHAT IT READS IS OF BULK AT MOST 1048576: true; the input reads as it did. -/
def textRuneUptoRow : OpenClaim := { program := "ytecbdjhhdhpmhaa", sum := "11481aeee420fe2091a59f0a3315fb13086553bf3e12ecb443dcc1c65faa8f4e", func := "playpen/playpenlaw01.TextRune", spec := "textRune", inPlace := ["internal/bytealg.IndexByteString"], unfollowed := true, recurses := true, apart := false, narrowed := true }
def TextRuneUptoSaid : Prop := textRuneUptoRow.holds Try.pinned (OpenSpec.upto textRuneSpec)

/-- 'playpenlaw01.TextBack', WHERE WHAT IT READS IS OF BULK AT MOST 1048576: true; the input reads as it did. -/
def textBackUptoRow : OpenClaim := { program := "ytecbdjhhdhpmhaa", sum := "11481aeee420fe2091a59f0a3315fb13086553bf3e12ecb443dcc1c65faa8f4e", func := "playpen/playpenlaw01.TextBack", spec := "textBack", inPlace := ["internal/bytealg.IndexByteString"], unfollowed := true, recurses := true, apart := false, narrowed := true }
def TextBackUptoSaid : Prop := textBackUptoRow.holds Try.pinned (OpenSpec.upto textBackSpec)

end Rows
end Go.Proofs.Ytecbdjhhdhpmhaa
