/-
  DERIVED. GIVEN WITH THE SEED: THE CARDS: each row of YtnplimdcfbgpeaaDoorRows.lean that lists a variable, with what it lists TIED to the program's text (the seventh form; the later family's looks); each row that meets fmt, with fmt's text TOLD by the authors' own Lean function (tested against real Go, not proved from fmt's source: count such statements apart). THE CARD IS WHAT COUNTS. Prove the row's statement (the work); the ties are given (YtnplimdcfbgpeaaDoorTie.lean); close each card by the builder's one call (the guide's Derived/Test/ToyasCard.lean, 'card_holds'). Laid BY PROGRAM, IN A SANDBOX (cutbox-door.mjs). By AI agents, Wed Nov 11 2026. No macro, syntax, notation, axiom, sorry.
-/
import Derived.Test.YtnplimdcfbgpeaaDoorRows
import GoSem.ClaimSeven
namespace Go.Proofs.YtnplimdcfbgpeaaDoor
namespace Rows

/-- THE TIED CARD OF 'playpenlaw08.ImageBack'. -/
def imageBackCard : Claim7 := { stood := { row := imageBackRow, standIns := [], harness := (true, "f1a2e5745ee689e37d1d38dd188d63c70bb58c033802244ea1a095baf6961815"), looks := false }, kinds := [], alts := [], laidByText := true, laidKinds := [.data], laidTests := true, laidLooks := .later }
def ImageBackCardSaid : Prop := Claim7.holds Tryd.pinned (.plain (OpenSpec.ofChange imageBackSpec)) imageBackCard

/-- THE TIED CARD OF 'playpenlaw08.ImageOne'. -/
def imageOneCard : Claim7 := { stood := { row := imageOneRow, standIns := [], harness := (true, "f1a2e5745ee689e37d1d38dd188d63c70bb58c033802244ea1a095baf6961815"), looks := false }, kinds := [], alts := [], laidByText := true, laidKinds := [.data], laidTests := true, laidLooks := .later }
def ImageOneCardSaid : Prop := Claim7.holds Tryd.pinned (.plain (OpenSpec.ofChange imageOneSpec)) imageOneCard

/-- THE TIED CARD OF 'playpenlaw08.ImageGaps'. -/
def imageGapsCard : Claim7 := { stood := { row := imageGapsRow, standIns := [], harness := (true, "f1a2e5745ee689e37d1d38dd188d63c70bb58c033802244ea1a095baf6961815"), looks := false }, kinds := [], alts := [], laidByText := true, laidKinds := [.data], laidTests := true, laidLooks := .later }
def ImageGapsCardSaid : Prop := Claim7.holds Tryd.pinned (.plain (OpenSpec.ofChange imageGapsSpec)) imageGapsCard

/-- THE SECOND FORM's CARD OF 'playpenlaw08.ImageBack'. -/
def imageBackUptoCard : Claim7 := { stood := { row := imageBackUptoRow, standIns := [], harness := (true, "f1a2e5745ee689e37d1d38dd188d63c70bb58c033802244ea1a095baf6961815"), looks := false }, kinds := [], alts := [], laidByText := true, laidKinds := [.data], laidTests := true, laidLooks := .later }
def ImageBackUptoCardSaid : Prop := Claim7.holds Tryd.pinned (.plain (OpenSpec.upto imageBackSpec)) imageBackUptoCard

/-- THE SECOND FORM's CARD OF 'playpenlaw08.ImageOne'. -/
def imageOneUptoCard : Claim7 := { stood := { row := imageOneUptoRow, standIns := [], harness := (true, "f1a2e5745ee689e37d1d38dd188d63c70bb58c033802244ea1a095baf6961815"), looks := false }, kinds := [], alts := [], laidByText := true, laidKinds := [.data], laidTests := true, laidLooks := .later }
def ImageOneUptoCardSaid : Prop := Claim7.holds Tryd.pinned (.plain (OpenSpec.upto imageOneSpec)) imageOneUptoCard

/-- THE SECOND FORM's CARD OF 'playpenlaw08.ImageGaps'. -/
def imageGapsUptoCard : Claim7 := { stood := { row := imageGapsUptoRow, standIns := [], harness := (true, "f1a2e5745ee689e37d1d38dd188d63c70bb58c033802244ea1a095baf6961815"), looks := false }, kinds := [], alts := [], laidByText := true, laidKinds := [.data], laidTests := true, laidLooks := .later }
def ImageGapsUptoCardSaid : Prop := Claim7.holds Tryd.pinned (.plain (OpenSpec.upto imageGapsSpec)) imageGapsUptoCard
end Rows
end Go.Proofs.YtnplimdcfbgpeaaDoor
