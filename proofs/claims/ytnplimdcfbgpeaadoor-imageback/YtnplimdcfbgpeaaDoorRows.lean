/-
  NARROWER THAN 'FOR EVERY INPUT', by the rows' own cells (each row's printed sentence says how): ImageBack: laid · ImageOne: laid · ImageGaps: laid.
  DERIVED. THE GIVEN ROWS OF THIS SEAT. 3 by the template 'for every input the law returns true; each argument reads behind the call as it read before'; 0 by the template 'total and deterministic' (their statements: YtnplimdcfbgpeaaDoorTotals.lean).
  GIVEN WITH THE SEED: the statements are not yours to turn. If you find one false, say at which input.
  Laid BY PROGRAM, IN A SANDBOX (cutbox-rows.mjs): the forced cells as the released guide's own fill.sh prints them over the translation da3399f7abdfce69… (all of the seat's roots in one cut). By AI agents, Wed Nov 11 2026. No macro, syntax, notation, axiom, sorry.
-/
import Derived.Test.YtnplimdcfbgpeaaDoorChecked
import GoSem.Claim
import GoSem.ClaimJoined
import GoSem.ClaimMapViews
import Derived.JoinedTies
import Derived.KernelRfl
namespace Go.Proofs.YtnplimdcfbgpeaaDoor
/- THE CELL 'sum', in the pinned program and in every row, IS THE sha256 OF THE DUMP (.gsa) THAT YtnplimdcfbgpeaaDoorProg.lean LOADS. Nothing in Lean hashes anything: it is a label: what it is worth is what the hold of that sum in a sandbox is worth. -/
noncomputable def Tryd.pinned : Pinned := { name := "ytnplimdcfbgpeaadoor", sum := "da3399f7abdfce69bdbae317fe664e315a740d052f4c5d19019123531e3a5051", checked := Tryd.checked }
namespace Rows
def none {H : Type} : Left H := { results := [], args := [] }

/- WHAT THE LISTED PACKAGE-LEVEL VARIABLES READ AS WHEN THE CALL BEGINS. Each datum BY PROGRAM (the guide's laid-datum.mjs) off the statement by which the dump's own 'gosem.cut.vars' lays the variable. In a bare row this is a premise. The card (YtnplimdcfbgpeaaDoorCards.lean) ties it to the program's text. -/
def laid_playpen_image_segmentPlaces {H : Type} : DataW H := .agg [.lit (.int .i64 16), .lit (.int .i64 24), .lit (.int .i64 32), .lit (.int .i64 40)]

/-- 'playpenlaw08.ImageBack': WHATEVER THE INPUT: true; the input reads as it did. -/
def imageBackSpec : ChangeSpec := { name := "imageBack", fn := fun _ => fun
  | [d] => { results := [.lit (.bool true)], args := [d] }
  | _ => none }
def imageBackRow : OpenClaim := { program := "ytnplimdcfbgpeaadoor", sum := "da3399f7abdfce69bdbae317fe664e315a740d052f4c5d19019123531e3a5051", func := "playpen/playpenlaw08.ImageBack", spec := "imageBack", unfollowed := true, recurses := true, named := ["playpen/image.segmentPlaces"], apart := false, laid := [("playpen/image.segmentPlaces", laid_playpen_image_segmentPlaces)] }
def ImageBackSaid : Prop := imageBackRow.holds Tryd.pinned (OpenSpec.ofChange imageBackSpec)

/-- ITS FALSE NEIGHBOUR: 'it returns false'. Refute it at one input. -/
def imageBackWrong : ChangeSpec := { name := "imageBack", fn := fun _ => fun
  | [d] => { results := [.lit (.bool false)], args := [d] }
  | _ => none }
def ImageBackWrongFalsely : Prop := imageBackRow.holds Tryd.pinned (OpenSpec.ofChange imageBackWrong)

/-- 'playpenlaw08.ImageOne': WHATEVER THE INPUT: true; the input reads as it did. -/
def imageOneSpec : ChangeSpec := { name := "imageOne", fn := fun _ => fun
  | [d] => { results := [.lit (.bool true)], args := [d] }
  | _ => none }
def imageOneRow : OpenClaim := { program := "ytnplimdcfbgpeaadoor", sum := "da3399f7abdfce69bdbae317fe664e315a740d052f4c5d19019123531e3a5051", func := "playpen/playpenlaw08.ImageOne", spec := "imageOne", unfollowed := true, recurses := true, named := ["playpen/image.segmentPlaces"], apart := false, laid := [("playpen/image.segmentPlaces", laid_playpen_image_segmentPlaces)] }
def ImageOneSaid : Prop := imageOneRow.holds Tryd.pinned (OpenSpec.ofChange imageOneSpec)

/-- ITS FALSE NEIGHBOUR: 'it returns false'. Refute it at one input. -/
def imageOneWrong : ChangeSpec := { name := "imageOne", fn := fun _ => fun
  | [d] => { results := [.lit (.bool false)], args := [d] }
  | _ => none }
def ImageOneWrongFalsely : Prop := imageOneRow.holds Tryd.pinned (OpenSpec.ofChange imageOneWrong)

/-- 'playpenlaw08.ImageGaps': WHATEVER THE INPUT: true; the input reads as it did. -/
def imageGapsSpec : ChangeSpec := { name := "imageGaps", fn := fun _ => fun
  | [d1, d2] => { results := [.lit (.bool true)], args := [d1, d2] }
  | _ => none }
def imageGapsRow : OpenClaim := { program := "ytnplimdcfbgpeaadoor", sum := "da3399f7abdfce69bdbae317fe664e315a740d052f4c5d19019123531e3a5051", func := "playpen/playpenlaw08.ImageGaps", spec := "imageGaps", unfollowed := true, recurses := true, named := ["playpen/image.segmentPlaces"], apart := false, laid := [("playpen/image.segmentPlaces", laid_playpen_image_segmentPlaces)] }
def ImageGapsSaid : Prop := imageGapsRow.holds Tryd.pinned (OpenSpec.ofChange imageGapsSpec)

/-- ITS FALSE NEIGHBOUR: 'it returns false'. Refute it at one input. -/
def imageGapsWrong : ChangeSpec := { name := "imageGaps", fn := fun _ => fun
  | [d1, d2] => { results := [.lit (.bool false)], args := [d1, d2] }
  | _ => none }
def ImageGapsWrongFalsely : Prop := imageGapsRow.holds Tryd.pinned (OpenSpec.ofChange imageGapsWrong)

/- THE SECOND FORM. 'bulk': how many values and letters a reading holds, each counted each time it is reached (what is shared counts as often as it is met; a slice's spare places count too). A statement '..UptoSaid' is the law's where the arguments, and the package variables that the reading takes, are together of bulk at most 1048576: NARROWER than '..Said'. Prove '..Said' where nothing that the law and all that it calls make is longer than what came in: it says more and counts as full. Else prove '..UptoSaid'. A law counts once. -/
mutual
def uptoBulk {H : Type} : DataW H → Nat
  | .lit (.string bytes) => bytes.length + 1
  | .lit _ => 1
  | .nil => 1
  | .ptr d => uptoBulk d + 1
  | .slice elems spare => uptoBulkAll elems + uptoBulkAll spare + 1
  | .agg parts => uptoBulkAll parts + 1
  | .iface _ d => uptoBulk d + 1
  | .map entries => uptoBulkEntries entries + 1
  | .held _ => 1
def uptoBulkAll {H : Type} : List (DataW H) → Nat
  | [] => 0
  | d :: r => uptoBulk d + uptoBulkAll r
def uptoBulkEntries {H : Type} : List (Lit × DataW H) → Nat
  | [] => 0
  | x :: r => uptoBulkEntry x + uptoBulkEntries r
def uptoBulkEntry {H : Type} : Lit × DataW H → Nat
  | (.string bytes, d) => bytes.length + uptoBulk d + 1
  | (_, d) => uptoBulk d + 1
 end
def uptoSmall : (H : Type) → List (DataW H) → Bool := fun _ ds => decide (uptoBulkAll ds ≤ 1048576)
def OpenSpec.upto (s : _root_.Go.ChangeSpec) : _root_.Go.OpenSpec := { _root_.Go.OpenSpec.ofChange s with cond := some uptoSmall }

/-- 'playpenlaw08.ImageBack', WHERE WHAT IT READS IS OF BULK AT MOST 1048576: true; the input reads as it did. -/
def imageBackUptoRow : OpenClaim := { program := "ytnplimdcfbgpeaadoor", sum := "da3399f7abdfce69bdbae317fe664e315a740d052f4c5d19019123531e3a5051", func := "playpen/playpenlaw08.ImageBack", spec := "imageBack", unfollowed := true, recurses := true, named := ["playpen/image.segmentPlaces"], apart := false, laid := [("playpen/image.segmentPlaces", laid_playpen_image_segmentPlaces)], narrowed := true }
def ImageBackUptoSaid : Prop := imageBackUptoRow.holds Tryd.pinned (OpenSpec.upto imageBackSpec)

/-- 'playpenlaw08.ImageOne', WHERE WHAT IT READS IS OF BULK AT MOST 1048576: true; the input reads as it did. -/
def imageOneUptoRow : OpenClaim := { program := "ytnplimdcfbgpeaadoor", sum := "da3399f7abdfce69bdbae317fe664e315a740d052f4c5d19019123531e3a5051", func := "playpen/playpenlaw08.ImageOne", spec := "imageOne", unfollowed := true, recurses := true, named := ["playpen/image.segmentPlaces"], apart := false, laid := [("playpen/image.segmentPlaces", laid_playpen_image_segmentPlaces)], narrowed := true }
def ImageOneUptoSaid : Prop := imageOneUptoRow.holds Tryd.pinned (OpenSpec.upto imageOneSpec)

/-- 'playpenlaw08.ImageGaps', WHERE WHAT IT READS IS OF BULK AT MOST 1048576: true; the input reads as it did. -/
def imageGapsUptoRow : OpenClaim := { program := "ytnplimdcfbgpeaadoor", sum := "da3399f7abdfce69bdbae317fe664e315a740d052f4c5d19019123531e3a5051", func := "playpen/playpenlaw08.ImageGaps", spec := "imageGaps", unfollowed := true, recurses := true, named := ["playpen/image.segmentPlaces"], apart := false, laid := [("playpen/image.segmentPlaces", laid_playpen_image_segmentPlaces)], narrowed := true }
def ImageGapsUptoSaid : Prop := imageGapsUptoRow.holds Tryd.pinned (OpenSpec.upto imageGapsSpec)

end Rows
end Go.Proofs.YtnplimdcfbgpeaaDoor
