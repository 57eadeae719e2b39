/-
  No cell of these rows narrows 'for every input' (looked for: loops, veiled, ifaces, maps, wideKeys, modest, calm, conditions, laid).
  DERIVED. THE GIVEN ROWS OF THIS SEAT. 5 by the template 'for every input the law returns true; each argument reads behind the call as it read before'; 0 by the template 'total and deterministic' (their statements: YtiopabplhneoeaaTotals.lean).
  GIVEN WITH THE SEED: the statements are not yours to turn. If you find one false, say at which input.
  Laid BY PROGRAM, IN A SANDBOX (cutbox-rows.mjs): the forced cells as the released guide's own fill.sh prints them over the translation 7a40d6d0abd347a8… (all of the seat's roots in one cut). By AI agents, Wed Nov 11 2026. No macro, syntax, notation, axiom, sorry.
-/
import Derived.Test.YtiopabplhneoeaaChecked
import GoSem.Claim
import GoSem.ClaimJoined
import GoSem.ClaimMapViews
import Derived.JoinedTies
import Derived.KernelRfl
namespace Go.Proofs.Ytiopabplhneoeaa
/- THE CELL 'sum', in the pinned program and in every row, IS THE sha256 OF THE DUMP (.gsa) THAT YtiopabplhneoeaaProg.lean LOADS. Nothing in Lean hashes anything: it is a label: what it is worth is what the hold of that sum in a sandbox is worth. -/
noncomputable def Try.pinned : Pinned := { name := "ytiopabplhneoeaa", sum := "7a40d6d0abd347a800d3db5d0cfc72597a6b3a82c335ca69863e9e3291e7d615", checked := Try.checked }
namespace Rows
def none {H : Type} : Left H := { results := [], args := [] }

/-- 'playpenlaw03.SingleRounds': WHATEVER THE INPUT: true; the input reads as it did. -/
def singleRoundsSpec : ChangeSpec := { name := "singleRounds", fn := fun _ => fun
  | [d] => { results := [.lit (.bool true)], args := [d] }
  | _ => none }
def singleRoundsRow : OpenClaim := { program := "ytiopabplhneoeaa", sum := "7a40d6d0abd347a800d3db5d0cfc72597a6b3a82c335ca69863e9e3291e7d615", func := "playpen/playpenlaw03.SingleRounds", spec := "singleRounds", apart := false }
def SingleRoundsSaid : Prop := singleRoundsRow.holds Try.pinned (OpenSpec.ofChange singleRoundsSpec)

/-- ITS FALSE NEIGHBOUR: 'it returns false'. Refute it at one input. -/
def singleRoundsWrong : ChangeSpec := { name := "singleRounds", fn := fun _ => fun
  | [d] => { results := [.lit (.bool false)], args := [d] }
  | _ => none }
def SingleRoundsWrongFalsely : Prop := singleRoundsRow.holds Try.pinned (OpenSpec.ofChange singleRoundsWrong)

/-- 'playpenlaw03.SingleStands': WHATEVER THE INPUT: true; the input reads as it did. -/
def singleStandsSpec : ChangeSpec := { name := "singleStands", fn := fun _ => fun
  | [d1, d2] => { results := [.lit (.bool true)], args := [d1, d2] }
  | _ => none }
def singleStandsRow : OpenClaim := { program := "ytiopabplhneoeaa", sum := "7a40d6d0abd347a800d3db5d0cfc72597a6b3a82c335ca69863e9e3291e7d615", func := "playpen/playpenlaw03.SingleStands", spec := "singleStands", inPlace := ["math.Float32frombits"], apart := false }
def SingleStandsSaid : Prop := singleStandsRow.holds Try.pinned (OpenSpec.ofChange singleStandsSpec)

/-- ITS FALSE NEIGHBOUR: 'it returns false'. Refute it at one input. -/
def singleStandsWrong : ChangeSpec := { name := "singleStands", fn := fun _ => fun
  | [d1, d2] => { results := [.lit (.bool false)], args := [d1, d2] }
  | _ => none }
def SingleStandsWrongFalsely : Prop := singleStandsRow.holds Try.pinned (OpenSpec.ofChange singleStandsWrong)

/-- 'playpenlaw03.SingleSums': WHATEVER THE INPUT: true; the input reads as it did. -/
def singleSumsSpec : ChangeSpec := { name := "singleSums", fn := fun _ => fun
  | [d1, d2] => { results := [.lit (.bool true)], args := [d1, d2] }
  | _ => none }
def singleSumsRow : OpenClaim := { program := "ytiopabplhneoeaa", sum := "7a40d6d0abd347a800d3db5d0cfc72597a6b3a82c335ca69863e9e3291e7d615", func := "playpen/playpenlaw03.SingleSums", spec := "singleSums", inPlace := ["math.Float32frombits", "math.Float32bits"], apart := false }
def SingleSumsSaid : Prop := singleSumsRow.holds Try.pinned (OpenSpec.ofChange singleSumsSpec)

/-- ITS FALSE NEIGHBOUR: 'it returns false'. Refute it at one input. -/
def singleSumsWrong : ChangeSpec := { name := "singleSums", fn := fun _ => fun
  | [d1, d2] => { results := [.lit (.bool false)], args := [d1, d2] }
  | _ => none }
def SingleSumsWrongFalsely : Prop := singleSumsRow.holds Try.pinned (OpenSpec.ofChange singleSumsWrong)

/-- 'playpenlaw03.SingleProducts': WHATEVER THE INPUT: true; the input reads as it did. -/
def singleProductsSpec : ChangeSpec := { name := "singleProducts", fn := fun _ => fun
  | [d1, d2] => { results := [.lit (.bool true)], args := [d1, d2] }
  | _ => none }
def singleProductsRow : OpenClaim := { program := "ytiopabplhneoeaa", sum := "7a40d6d0abd347a800d3db5d0cfc72597a6b3a82c335ca69863e9e3291e7d615", func := "playpen/playpenlaw03.SingleProducts", spec := "singleProducts", inPlace := ["math.Float32frombits", "math.Float32bits"], apart := false }
def SingleProductsSaid : Prop := singleProductsRow.holds Try.pinned (OpenSpec.ofChange singleProductsSpec)

/-- ITS FALSE NEIGHBOUR: 'it returns false'. Refute it at one input. -/
def singleProductsWrong : ChangeSpec := { name := "singleProducts", fn := fun _ => fun
  | [d1, d2] => { results := [.lit (.bool false)], args := [d1, d2] }
  | _ => none }
def SingleProductsWrongFalsely : Prop := singleProductsRow.holds Try.pinned (OpenSpec.ofChange singleProductsWrong)

/-- 'playpenlaw03.SingleInts': WHATEVER THE INPUT: true; the input reads as it did. -/
def singleIntsSpec : ChangeSpec := { name := "singleInts", fn := fun _ => fun
  | [d1, d2] => { results := [.lit (.bool true)], args := [d1, d2] }
  | _ => none }
def singleIntsRow : OpenClaim := { program := "ytiopabplhneoeaa", sum := "7a40d6d0abd347a800d3db5d0cfc72597a6b3a82c335ca69863e9e3291e7d615", func := "playpen/playpenlaw03.SingleInts", spec := "singleInts", inPlace := ["math.Float32bits", "math.Float32frombits"], apart := false }
def SingleIntsSaid : Prop := singleIntsRow.holds Try.pinned (OpenSpec.ofChange singleIntsSpec)

/-- ITS FALSE NEIGHBOUR: 'it returns false'. Refute it at one input. -/
def singleIntsWrong : ChangeSpec := { name := "singleInts", fn := fun _ => fun
  | [d1, d2] => { results := [.lit (.bool false)], args := [d1, d2] }
  | _ => none }
def SingleIntsWrongFalsely : Prop := singleIntsRow.holds Try.pinned (OpenSpec.ofChange singleIntsWrong)

/- THE SECOND FORM. 'bulk': how many values and letters a reading holds, each counted each time it is reached (what is shared counts as often as it is met; a slice's spare places count too). A statement '..UptoSaid' is the law's where the arguments, and the package variables that the reading takes, are together of bulk at most 1048576: NARROWER than '..Said'. Prove '..Said' where nothing that the law and all that it calls make is longer than what came in: it says more and counts as full. Else prove '..UptoSaid'. A law counts once. -/
mutual
def uptoBulk {H : Type} : DataW H → Nat
  | .lit (.string bytes) => bytes.length + 1
  | .lit _ => 1
  | .nil => 1
  | .ptr d => uptoBulk d + 1
  | .slice elems spare => uptoBulkAll elems + uptoBulkAll spare + 1
  | .agg parts => uptoBulkAll parts + 1
  | .iface _ d => uptoBulk d + 1
  | .map entries => uptoBulkEntries entries + 1
  | .held _ => 1
def uptoBulkAll {H : Type} : List (DataW H) → Nat
  | [] => 0
  | d :: r => uptoBulk d + uptoBulkAll r
def uptoBulkEntries {H : Type} : List (Lit × DataW H) → Nat
  | [] => 0
  | x :: r => uptoBulkEntry x + uptoBulkEntries r
def uptoBulkEntry {H : Type} : Lit × DataW H → Nat
  | (.string bytes, d) => bytes.length + uptoBulk d + 1
  | (_, d) => uptoBulk d + 1
 end
def uptoSmall : (H : Type) → List (DataW H) → Bool := fun _ ds => decide (uptoBulkAll ds ≤ 1048576)
def OpenSpec.upto (s : _root_.Go.ChangeSpec) : _root_.Go.OpenSpec := { _root_.Go.OpenSpec.ofChange s with cond := some uptoSmall }

/-- 'playpenlaw03.SingleRounds', WHERE WHAT IT READS IS OF BULK AT MOST 1048576: true; the input reads as it did. -/
def singleRoundsUptoRow : OpenClaim := { program := "ytiopabplhneoeaa", sum := "7a40d6d0abd347a800d3db5d0cfc72597a6b3a82c335ca69863e9e3291e7d615", func := "playpen/playpenlaw03.SingleRounds", spec := "singleRounds", apart := false, narrowed := true }
def SingleRoundsUptoSaid : Prop := singleRoundsUptoRow.holds Try.pinned (OpenSpec.upto singleRoundsSpec)

/-- 'playpenlaw03.SingleStands', WHERE WHAT IT READS IS OF BULK AT MOST 1048576: true; the input reads as it did. -/
def singleStandsUptoRow : OpenClaim := { program := "ytiopabplhneoeaa", sum := "7a40d6d0abd347a800d3db5d0cfc72597a6b3a82c335ca69863e9e3291e7d615", func := "playpen/playpenlaw03.SingleStands", spec := "singleStands", inPlace := ["math.Float32frombits"], apart := false, narrowed := true }
def SingleStandsUptoSaid : Prop := singleStandsUptoRow.holds Try.pinned (OpenSpec.upto singleStandsSpec)

/-- 'playpenlaw03.SingleSums', WHERE WHAT IT READS IS OF BULK AT MOST 1048576: true; the input reads as it did. -/
def singleSumsUptoRow : OpenClaim := { program := "ytiopabplhneoeaa", sum := "7a40d6d0abd347a800d3db5d0cfc72597a6b3a82c335ca69863e9e3291e7d615", func := "playpen/playpenlaw03.SingleSums", spec := "singleSums", inPlace := ["math.Float32frombits", "math.Float32bits"], apart := false, narrowed := true }
def SingleSumsUptoSaid : Prop := singleSumsUptoRow.holds Try.pinned (OpenSpec.upto singleSumsSpec)

/-- 'playpenlaw03.SingleProducts', WHERE WHAT IT READS IS OF BULK AT MOST 1048576: true; the input reads as it did. -/
def singleProductsUptoRow : OpenClaim := { program := "ytiopabplhneoeaa", sum := "7a40d6d0abd347a800d3db5d0cfc72597a6b3a82c335ca69863e9e3291e7d615", func := "playpen/playpenlaw03.SingleProducts", spec := "singleProducts", inPlace := ["math.Float32frombits", "math.Float32bits"], apart := false, narrowed := true }
def SingleProductsUptoSaid : Prop := singleProductsUptoRow.holds Try.pinned (OpenSpec.upto singleProductsSpec)

/-- 'playpenlaw03.SingleInts', WHERE WHAT IT READS IS OF BULK AT MOST 1048576: true; the input reads as it did. -/
def singleIntsUptoRow : OpenClaim := { program := "ytiopabplhneoeaa", sum := "7a40d6d0abd347a800d3db5d0cfc72597a6b3a82c335ca69863e9e3291e7d615", func := "playpen/playpenlaw03.SingleInts", spec := "singleInts", inPlace := ["math.Float32bits", "math.Float32frombits"], apart := false, narrowed := true }
def SingleIntsUptoSaid : Prop := singleIntsUptoRow.holds Try.pinned (OpenSpec.upto singleIntsSpec)

end Rows
end Go.Proofs.Ytiopabplhneoeaa
