/-
  No cell of these rows narrows 'for every input' (looked for: loops, veiled, ifaces, maps, wideKeys, modest, calm, conditions, laid).
  DERIVED. THE GIVEN ROWS OF THIS SEAT. 3 by the template 'for every input the law returns true; each argument reads behind the call as it read before'; 0 by the template 'total and deterministic' (their statements: YtibhlcfligfhdaaGreatTotals.lean).
  GIVEN WITH THE SEED: the statements are not yours to turn. If you find one false, say at which input.
  Laid BY PROGRAM, IN A SANDBOX (cutbox-rows.mjs): the forced cells as the released guide's own fill.sh prints them over the translation 23fb63ffe7ab9b97… (all of the seat's roots in one cut). By AI agents, Wed Nov 11 2026. No macro, syntax, notation, axiom, sorry.
-/
import Derived.Test.YtibhlcfligfhdaaGreatChecked
import GoSem.Claim
import GoSem.ClaimJoined
import GoSem.ClaimMapViews
import Derived.JoinedTies
import Derived.KernelRfl
namespace Go.Proofs.YtibhlcfligfhdaaGreat
/- THE CELL 'sum', in the pinned program and in every row, IS THE sha256 OF THE DUMP (.gsa) THAT YtibhlcfligfhdaaGreatProg.lean LOADS. Nothing in Lean hashes anything: it is a label: what it is worth is what the hold of that sum in a sandbox is worth. -/
noncomputable def Tryz.pinned : Pinned := { name := "ytibhlcfligfhdaagreat", sum := "23fb63ffe7ab9b97458f84c0267e0f91717c7a10dc363425d503f4539b8f584b", checked := Tryz.checked }
namespace Rows
def none {H : Type} : Left H := { results := [], args := [] }

/-- 'playpenlaw22.FuseFits': WHATEVER THE INPUT: true; the input reads as it did. -/
def fuseFitsSpec : ChangeSpec := { name := "fuseFits", fn := fun _ => fun
  | [d1, d2, d3, d4] => { results := [.lit (.bool true)], args := [d1, d2, d3, d4] }
  | _ => none }
def fuseFitsRow : OpenClaim := { program := "ytibhlcfligfhdaagreat", sum := "23fb63ffe7ab9b97458f84c0267e0f91717c7a10dc363425d503f4539b8f584b", func := "playpen/playpenlaw22.FuseFits", spec := "fuseFits", inPlace := ["math.Float32frombits", "math.Float32bits"], unfollowed := true, recurses := true, apart := false }
def FuseFitsSaid : Prop := fuseFitsRow.holds Tryz.pinned (OpenSpec.ofChange fuseFitsSpec)

/-- ITS FALSE NEIGHBOUR: 'it returns false'. Refute it at one input. -/
def fuseFitsWrong : ChangeSpec := { name := "fuseFits", fn := fun _ => fun
  | [d1, d2, d3, d4] => { results := [.lit (.bool false)], args := [d1, d2, d3, d4] }
  | _ => none }
def FuseFitsWrongFalsely : Prop := fuseFitsRow.holds Tryz.pinned (OpenSpec.ofChange fuseFitsWrong)

/-- 'playpenlaw22.FuseLongest': WHATEVER THE INPUT: true; the input reads as it did. -/
def fuseLongestSpec : ChangeSpec := { name := "fuseLongest", fn := fun _ => fun
  | [d1, d2, d3, d4] => { results := [.lit (.bool true)], args := [d1, d2, d3, d4] }
  | _ => none }
def fuseLongestRow : OpenClaim := { program := "ytibhlcfligfhdaagreat", sum := "23fb63ffe7ab9b97458f84c0267e0f91717c7a10dc363425d503f4539b8f584b", func := "playpen/playpenlaw22.FuseLongest", spec := "fuseLongest", inPlace := ["math.Float32frombits", "math.Float32bits"], unfollowed := true, recurses := true, apart := false }
def FuseLongestSaid : Prop := fuseLongestRow.holds Tryz.pinned (OpenSpec.ofChange fuseLongestSpec)

/-- ITS FALSE NEIGHBOUR: 'it returns false'. Refute it at one input. -/
def fuseLongestWrong : ChangeSpec := { name := "fuseLongest", fn := fun _ => fun
  | [d1, d2, d3, d4] => { results := [.lit (.bool false)], args := [d1, d2, d3, d4] }
  | _ => none }
def FuseLongestWrongFalsely : Prop := fuseLongestRow.holds Tryz.pinned (OpenSpec.ofChange fuseLongestWrong)

/-- 'playpenlaw22.FuseRow': WHATEVER THE INPUT: true; the input reads as it did. -/
def fuseRowSpec : ChangeSpec := { name := "fuseRow", fn := fun _ => fun
  | [d1, d2, d3, d4] => { results := [.lit (.bool true)], args := [d1, d2, d3, d4] }
  | _ => none }
def fuseRowRow : OpenClaim := { program := "ytibhlcfligfhdaagreat", sum := "23fb63ffe7ab9b97458f84c0267e0f91717c7a10dc363425d503f4539b8f584b", func := "playpen/playpenlaw22.FuseRow", spec := "fuseRow", inPlace := ["math.Float32frombits", "math.Float32bits"], unfollowed := true, recurses := true, apart := false }
def FuseRowSaid : Prop := fuseRowRow.holds Tryz.pinned (OpenSpec.ofChange fuseRowSpec)

/-- ITS FALSE NEIGHBOUR: 'it returns false'. Refute it at one input. -/
def fuseRowWrong : ChangeSpec := { name := "fuseRow", fn := fun _ => fun
  | [d1, d2, d3, d4] => { results := [.lit (.bool false)], args := [d1, d2, d3, d4] }
  | _ => none }
def FuseRowWrongFalsely : Prop := fuseRowRow.holds Tryz.pinned (OpenSpec.ofChange fuseRowWrong)

/- THE SECOND FORM. 'bulk': how many values and letters a reading holds, each counted each time it is reached (what is shared counts as often as it is met; a slice's spare places count too). A statement '..UptoSaid' is the law's where the arguments, and the package variables that the reading takes, are together of bulk at most 1048576: NARROWER than '..Said'. Prove '..Said' where nothing that the law and all that it calls make is longer than what came in: it says more and counts as full. Else prove '..UptoSaid'. A law counts once. -/
mutual
def uptoBulk {H : Type} : DataW H → Nat
  | .lit (.string bytes) => bytes.length + 1
  | .lit _ => 1
  | .nil => 1
  | .ptr d => uptoBulk d + 1
  | .slice elems spare => uptoBulkAll elems + uptoBulkAll spare + 1
  | .agg parts => uptoBulkAll parts + 1
  | .iface _ d => uptoBulk d + 1
  | .map entries => uptoBulkEntries entries + 1
  | .held _ => 1
def uptoBulkAll {H : Type} : List (DataW H) → Nat
  | [] => 0
  | d :: r => uptoBulk d + uptoBulkAll r
def uptoBulkEntries {H : Type} : List (Lit × DataW H) → Nat
  | [] => 0
  | x :: r => uptoBulkEntry x + uptoBulkEntries r
def uptoBulkEntry {H : Type} : Lit × DataW H → Nat
  | (.string bytes, d) => bytes.length + uptoBulk d + 1
  | (_, d) => uptoBulk d + 1
 end
def uptoSmall : (H : Type) → List (DataW H) → Bool := fun _ ds => decide (uptoBulkAll ds ≤ 1048576)
def OpenSpec.upto (s : _root_.Go.ChangeSpec) : _root_.Go.OpenSpec := { _root_.Go.OpenSpec.ofChange s with cond := some uptoSmall }

/-- 'playpenlaw22.FuseFits', WHERE WHAT IT READS IS OF BULK AT MOST 1048576: true; the input reads as it did. -/
def fuseFitsUptoRow : OpenClaim := { program := "ytibhlcfligfhdaagreat", sum := "23fb63ffe7ab9b97458f84c0267e0f91717c7a10dc363425d503f4539b8f584b", func := "playpen/playpenlaw22.FuseFits", spec := "fuseFits", inPlace := ["math.Float32frombits", "math.Float32bits"], unfollowed := true, recurses := true, apart := false, narrowed := true }
def FuseFitsUptoSaid : Prop := fuseFitsUptoRow.holds Tryz.pinned (OpenSpec.upto fuseFitsSpec)

/-- 'playpenlaw22.FuseLongest', WHERE WHAT IT READS IS OF BULK AT MOST 1048576: true; the input reads as it did. -/
def fuseLongestUptoRow : OpenClaim := { program := "ytibhlcfligfhdaagreat", sum := "23fb63ffe7ab9b97458f84c0267e0f91717c7a10dc363425d503f4539b8f584b", func := "playpen/playpenlaw22.FuseLongest", spec := "fuseLongest", inPlace := ["math.Float32frombits", "math.Float32bits"], unfollowed := true, recurses := true, apart := false, narrowed := true }
def FuseLongestUptoSaid : Prop := fuseLongestUptoRow.holds Tryz.pinned (OpenSpec.upto fuseLongestSpec)

/-- 'playpenlaw22.FuseRow', WHERE WHAT IT READS IS OF BULK AT MOST 1048576: true; the input reads as it did. -/
def fuseRowUptoRow : OpenClaim := { program := "ytibhlcfligfhdaagreat", sum := "23fb63ffe7ab9b97458f84c0267e0f91717c7a10dc363425d503f4539b8f584b", func := "playpen/playpenlaw22.FuseRow", spec := "fuseRow", inPlace := ["math.Float32frombits", "math.Float32bits"], unfollowed := true, recurses := true, apart := false, narrowed := true }
def FuseRowUptoSaid : Prop := fuseRowUptoRow.holds Tryz.pinned (OpenSpec.upto fuseRowSpec)

end Rows
end Go.Proofs.YtibhlcfligfhdaaGreat
