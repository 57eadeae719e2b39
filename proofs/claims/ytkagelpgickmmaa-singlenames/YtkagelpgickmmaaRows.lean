/-
  No cell of these rows narrows 'for every input' (looked for: loops, veiled, ifaces, maps, wideKeys, modest, calm, conditions, laid).
  DERIVED. THE GIVEN ROWS OF THIS SEAT. 3 by the template 'for every input the law returns true; each argument reads behind the call as it read before'; 0 by the template 'total and deterministic' (their statements: YtkagelpgickmmaaTotals.lean).
  GIVEN WITH THE SEED: the statements are not yours to turn. If you find one false, say at which input.
  Laid BY PROGRAM, IN A SANDBOX (cutbox-rows.mjs): the forced cells as the released guide's own fill.sh prints them over the translation a01fe610d90384d9… (all of the seat's roots in one cut). By AI agents, Wed Nov 11 2026. No macro, syntax, notation, axiom, sorry.
-/
import Derived.Test.YtkagelpgickmmaaChecked
import GoSem.Claim
import GoSem.ClaimJoined
import GoSem.ClaimMapViews
import Derived.JoinedTies
import Derived.KernelRfl
namespace Go.Proofs.Ytkagelpgickmmaa
/- THE CELL 'sum', in the pinned program and in every row, IS THE sha256 OF THE DUMP (.gsa) THAT YtkagelpgickmmaaProg.lean LOADS. Nothing in Lean hashes anything: it is a label: what it is worth is what the hold of that sum in a sandbox is worth. -/
noncomputable def Try.pinned : Pinned := { name := "ytkagelpgickmmaa", sum := "a01fe610d90384d92939bf817ef6b9e69953193fba0723669411e82b2d27b752", checked := Try.checked }
namespace Rows
def none {H : Type} : Left H := { results := [], args := [] }

/-- 'playpenlaw03.SingleNames': WHATEVER THE INPUT: true; the input reads as it did. -/
def singleNamesSpec : ChangeSpec := { name := "singleNames", fn := fun _ => fun
  | [] => { results := [.lit (.bool true)], args := [] }
  | _ => none }
def singleNamesRow : OpenClaim := { program := "ytkagelpgickmmaa", sum := "a01fe610d90384d92939bf817ef6b9e69953193fba0723669411e82b2d27b752", func := "playpen/playpenlaw03.SingleNames", spec := "singleNames", inPlace := ["math.Float32frombits", "math.Float32bits", "math.sqrt", "math.Float64bits", "math.Float64frombits"], apart := false }
def SingleNamesSaid : Prop := singleNamesRow.holds Try.pinned (OpenSpec.ofChange singleNamesSpec)

/-- ITS FALSE NEIGHBOUR: 'it returns false'. Refute it at one input. -/
def singleNamesWrong : ChangeSpec := { name := "singleNames", fn := fun _ => fun
  | [] => { results := [.lit (.bool false)], args := [] }
  | _ => none }
def SingleNamesWrongFalsely : Prop := singleNamesRow.holds Try.pinned (OpenSpec.ofChange singleNamesWrong)

/-- 'playpenlaw03.SingleOne': WHATEVER THE INPUT: true; the input reads as it did. -/
def singleOneSpec : ChangeSpec := { name := "singleOne", fn := fun _ => fun
  | [d1, d2] => { results := [.lit (.bool true)], args := [d1, d2] }
  | _ => none }
def singleOneRow : OpenClaim := { program := "ytkagelpgickmmaa", sum := "a01fe610d90384d92939bf817ef6b9e69953193fba0723669411e82b2d27b752", func := "playpen/playpenlaw03.SingleOne", spec := "singleOne", inPlace := ["math.Float32frombits", "math.Float32bits", "math.sqrt", "math.Float64bits"], apart := false }
def SingleOneSaid : Prop := singleOneRow.holds Try.pinned (OpenSpec.ofChange singleOneSpec)

/-- ITS FALSE NEIGHBOUR: 'it returns false'. Refute it at one input. -/
def singleOneWrong : ChangeSpec := { name := "singleOne", fn := fun _ => fun
  | [d1, d2] => { results := [.lit (.bool false)], args := [d1, d2] }
  | _ => none }
def SingleOneWrongFalsely : Prop := singleOneRow.holds Try.pinned (OpenSpec.ofChange singleOneWrong)

/-- 'playpenlaw03.SingleSigns': WHATEVER THE INPUT: true; the input reads as it did. -/
def singleSignsSpec : ChangeSpec := { name := "singleSigns", fn := fun _ => fun
  | [d1, d2] => { results := [.lit (.bool true)], args := [d1, d2] }
  | _ => none }
def singleSignsRow : OpenClaim := { program := "ytkagelpgickmmaa", sum := "a01fe610d90384d92939bf817ef6b9e69953193fba0723669411e82b2d27b752", func := "playpen/playpenlaw03.SingleSigns", spec := "singleSigns", inPlace := ["math.Float32frombits", "math.Float32bits", "math.sqrt", "math.Float64bits"], apart := false }
def SingleSignsSaid : Prop := singleSignsRow.holds Try.pinned (OpenSpec.ofChange singleSignsSpec)

/-- ITS FALSE NEIGHBOUR: 'it returns false'. Refute it at one input. -/
def singleSignsWrong : ChangeSpec := { name := "singleSigns", fn := fun _ => fun
  | [d1, d2] => { results := [.lit (.bool false)], args := [d1, d2] }
  | _ => none }
def SingleSignsWrongFalsely : Prop := singleSignsRow.holds Try.pinned (OpenSpec.ofChange singleSignsWrong)

/- THE SECOND FORM. 'bulk': how many values and letters a reading holds, each counted each time it is reached (what is shared counts as often as it is met; a slice's spare places count too). A statement '..UptoSaid' is the law's where the arguments, and the package variables that the reading takes, are together of bulk at most 1048576: NARROWER than '..Said'. Prove '..Said' where nothing that the law and all that it calls make is longer than what came in: it says more and counts as full. Else prove '..UptoSaid'. A law counts once. -/
mutual
def uptoBulk {H : Type} : DataW H → Nat
  | .lit (.string bytes) => bytes.length + 1
  | .lit _ => 1
  | .nil => 1
  | .ptr d => uptoBulk d + 1
  | .slice elems spare => uptoBulkAll elems + uptoBulkAll spare + 1
  | .agg parts => uptoBulkAll parts + 1
  | .iface _ d => uptoBulk d + 1
  | .map entries => uptoBulkEntries entries + 1
  | .held _ => 1
def uptoBulkAll {H : Type} : List (DataW H) → Nat
  | [] => 0
  | d :: r => uptoBulk d + uptoBulkAll r
def uptoBulkEntries {H : Type} : List (Lit × DataW H) → Nat
  | [] => 0
  | x :: r => uptoBulkEntry x + uptoBulkEntries r
def uptoBulkEntry {H : Type} : Lit × DataW H → Nat
  | (.string bytes, d) => bytes.length + uptoBulk d + 1
  | (_, d) => uptoBulk d + 1
 end
def uptoSmall : (H : Type) → List (DataW H) → Bool := fun _ ds => decide (uptoBulkAll ds ≤ 1048576)
def OpenSpec.upto (s : _root_.Go.ChangeSpec) : _root_.Go.OpenSpec := { _root_.Go.OpenSpec.ofChange s with cond := some uptoSmall }

/-- 'playpenlaw03.SingleNames', WHERE WHAT IT READS IS OF BULK AT MOST 1048576: true; the input reads as it did. -/
def singleNamesUptoRow : OpenClaim := { program := "ytkagelpgickmmaa", sum := "a01fe610d90384d92939bf817ef6b9e69953193fba0723669411e82b2d27b752", func := "playpen/playpenlaw03.SingleNames", spec := "singleNames", inPlace := ["math.Float32frombits", "math.Float32bits", "math.sqrt", "math.Float64bits", "math.Float64frombits"], apart := false, narrowed := true }
def SingleNamesUptoSaid : Prop := singleNamesUptoRow.holds Try.pinned (OpenSpec.upto singleNamesSpec)

/-- 'playpenlaw03.SingleOne', WHERE WHAT IT READS IS OF BULK AT MOST 1048576: true; the input reads as it did. -/
def singleOneUptoRow : OpenClaim := { program := "ytkagelpgickmmaa", sum := "a01fe610d90384d92939bf817ef6b9e69953193fba0723669411e82b2d27b752", func := "playpen/playpenlaw03.SingleOne", spec := "singleOne", inPlace := ["math.Float32frombits", "math.Float32bits", "math.sqrt", "math.Float64bits"], apart := false, narrowed := true }
def SingleOneUptoSaid : Prop := singleOneUptoRow.holds Try.pinned (OpenSpec.upto singleOneSpec)

/-- 'playpenlaw03.SingleSigns', WHERE WHAT IT READS IS OF BULK AT MOST 1048576: true; the input reads as it did. -/
def singleSignsUptoRow : OpenClaim := { program := "ytkagelpgickmmaa", sum := "a01fe610d90384d92939bf817ef6b9e69953193fba0723669411e82b2d27b752", func := "playpen/playpenlaw03.SingleSigns", spec := "singleSigns", inPlace := ["math.Float32frombits", "math.Float32bits", "math.sqrt", "math.Float64bits"], apart := false, narrowed := true }
def SingleSignsUptoSaid : Prop := singleSignsUptoRow.holds Try.pinned (OpenSpec.upto singleSignsSpec)

end Rows
end Go.Proofs.Ytkagelpgickmmaa
