/-
  No cell of these rows narrows 'for every input' (looked for: loops, veiled, ifaces, maps, wideKeys, modest, calm, conditions, laid).
  DERIVED. THE GIVEN ROWS OF THIS SEAT. 2 by the template 'for every input the law returns true; each argument reads behind the call as it read before'; 0 by the template 'total and deterministic' (their statements: YtcaobkhifiicnaaTotals.lean).
  GIVEN WITH THE SEED: the statements are not yours to turn. If you find one false, say at which input.
  Laid BY PROGRAM, IN A SANDBOX (cutbox-rows.mjs): the forced cells as the released guide's own fill.sh prints them over the translation 88fd43babb3b6f46… (all of the seat's roots in one cut). By AI agents, Wed Nov 11 2026. No macro, syntax, notation, axiom, sorry.
-/
import Derived.Test.YtcaobkhifiicnaaChecked
import GoSem.Claim
import GoSem.ClaimJoined
import GoSem.ClaimMapViews
import Derived.JoinedTies
import Derived.KernelRfl
namespace Go.Proofs.Ytcaobkhifiicnaa
/- THE CELL 'sum', in the pinned program and in every row, IS THE sha256 OF THE DUMP (.gsa) THAT YtcaobkhifiicnaaProg.lean LOADS. Nothing in Lean hashes anything: it is a label: what it is worth is what the hold of that sum in a sandbox is worth. -/
noncomputable def Try.pinned : Pinned := { name := "ytcaobkhifiicnaa", sum := "88fd43babb3b6f46e48b045dc8f166313e8c0d7f757f8ad6a417274dec97ec60", checked := Try.checked }
namespace Rows
def none {H : Type} : Left H := { results := [], args := [] }

/-- 'playpenlaw01.TextGuest': WHATEVER THE INPUT: true; the input reads as it did. -/
def textGuestSpec : ChangeSpec := { name := "textGuest", fn := fun _ => fun
  | [d] => { results := [.lit (.bool true)], args := [d] }
  | _ => none }
def textGuestRow : OpenClaim := { program := "ytcaobkhifiicnaa", sum := "88fd43babb3b6f46e48b045dc8f166313e8c0d7f757f8ad6a417274dec97ec60", func := "playpen/playpenlaw01.TextGuest", spec := "textGuest", inPlace := ["internal/bytealg.IndexByte"], unfollowed := true, recurses := true, apart := false }
def TextGuestSaid : Prop := textGuestRow.holds Try.pinned (OpenSpec.ofChange textGuestSpec)

/-- ITS FALSE NEIGHBOUR: 'it returns false'. Refute it at one input. -/
def textGuestWrong : ChangeSpec := { name := "textGuest", fn := fun _ => fun
  | [d] => { results := [.lit (.bool false)], args := [d] }
  | _ => none }
def TextGuestWrongFalsely : Prop := textGuestRow.holds Try.pinned (OpenSpec.ofChange textGuestWrong)

/-- 'playpenlaw01.TextGuests': WHATEVER THE INPUT: true; the input reads as it did. -/
def textGuestsSpec : ChangeSpec := { name := "textGuests", fn := fun _ => fun
  | [d] => { results := [.lit (.bool true)], args := [d] }
  | _ => none }
def textGuestsRow : OpenClaim := { program := "ytcaobkhifiicnaa", sum := "88fd43babb3b6f46e48b045dc8f166313e8c0d7f757f8ad6a417274dec97ec60", func := "playpen/playpenlaw01.TextGuests", spec := "textGuests", inPlace := ["internal/bytealg.IndexByte"], unfollowed := true, recurses := true, apart := false }
def TextGuestsSaid : Prop := textGuestsRow.holds Try.pinned (OpenSpec.ofChange textGuestsSpec)

/-- ITS FALSE NEIGHBOUR: 'it returns false'. Refute it at one input. -/
def textGuestsWrong : ChangeSpec := { name := "textGuests", fn := fun _ => fun
  | [d] => { results := [.lit (.bool false)], args := [d] }
  | _ => none }
def TextGuestsWrongFalsely : Prop := textGuestsRow.holds Try.pinned (OpenSpec.ofChange textGuestsWrong)

/- THE SECOND FORM. 'bulk': how many values and letters a reading holds, each counted each time it is reached (what is shared counts as often as it is met; a slice's spare places count too). A statement '..UptoSaid' is the law's where the arguments, and the package variables that the reading takes, are together of bulk at most 1048576: NARROWER than '..Said'. Prove '..Said' where nothing that the law and all that it calls make is longer than what came in: it says more and counts as full. Else prove '..UptoSaid'. A law counts once. -/
mutual
def uptoBulk {H : Type} : DataW H → Nat
  | .lit (.string bytes) => bytes.length + 1
  | .lit _ => 1
  | .nil => 1
  | .ptr d => uptoBulk d + 1
  | .slice elems spare => uptoBulkAll elems + uptoBulkAll spare + 1
  | .agg parts => uptoBulkAll parts + 1
  | .iface _ d => uptoBulk d + 1
  | .map entries => uptoBulkEntries entries + 1
  | .held _ => 1
def uptoBulkAll {H : Type} : List (DataW H) → Nat
  | [] => 0
  | d :: r => uptoBulk d + uptoBulkAll r
def uptoBulkEntries {H : Type} : List (Lit × DataW H) → Nat
  | [] => 0
  | x :: r => uptoBulkEntry x + uptoBulkEntries r
def uptoBulkEntry {H : Type} : Lit × DataW H → Nat
  | (.string bytes, d) => bytes.length + uptoBulk d + 1
  | (_, d) => uptoBulk d + 1
 end
def uptoSmall : (H : Type) → List (DataW H) → Bool := fun _ ds => decide (uptoBulkAll ds ≤ 1048576)
def OpenSpec.upto (s : _root_.Go.ChangeSpec) : _root_.Go.OpenSpec := { _root_.Go.OpenSpec.ofChange s with cond := some uptoSmall }

/-- 'playpenlaw01.TextGuest', WHERE WHAT IT READS IS OF BULK AT MOST 1048576: true; the input reads as it did. -/
def textGuestUptoRow : OpenClaim := { program := "ytcaobkhifiicnaa", sum := "88fd43babb3b6f46e48b045dc8f166313e8c0d7f757f8ad6a417274dec97ec60", func := "playpen/playpenlaw01.TextGuest", spec := "textGuest", inPlace := ["internal/bytealg.IndexByte"], unfollowed := true, recurses := true, apart := false, narrowed := true }
def TextGuestUptoSaid : Prop := textGuestUptoRow.holds Try.pinned (OpenSpec.upto textGuestSpec)

/-- 'playpenlaw01.TextGuests', WHERE WHAT IT READS IS OF BULK AT MOST 1048576: true; the input reads as it did. -/
def textGuestsUptoRow : OpenClaim := { program := "ytcaobkhifiicnaa", sum := "88fd43babb3b6f46e48b045dc8f166313e8c0d7f757f8ad6a417274dec97ec60", func := "playpen/playpenlaw01.TextGuests", spec := "textGuests", inPlace := ["internal/bytealg.IndexByte"], unfollowed := true, recurses := true, apart := false, narrowed := true }
def TextGuestsUptoSaid : Prop := textGuestsUptoRow.holds Try.pinned (OpenSpec.upto textGuestsSpec)

end Rows
end Go.Proofs.Ytcaobkhifiicnaa
