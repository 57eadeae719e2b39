/-
  DERIVED. GIVEN WITH THE SEED: THE CARDS: each row of YtipgpigcpbckgaaDoorRows.lean that lists a variable, with what it lists TIED to the program's text (the seventh form; the later family's looks); each row that meets fmt, with fmt's text TOLD by the authors' own Lean function (tested against real Go, not proved from fmt's source: count such statements apart). THE CARD IS WHAT COUNTS. Prove the row's statement (the work); the ties are given (YtipgpigcpbckgaaDoorTie.lean); close each card by the builder's one call (the guide's Derived/Test/ToyasCard.lean, 'card_holds'). Laid BY PROGRAM, IN A SANDBOX (cutbox-door.mjs). By AI agents, Wed Nov 11 2026. No macro, syntax, notation, axiom, sorry.
-/
import Derived.Test.YtipgpigcpbckgaaDoorRows
import GoSem.ClaimSeven
namespace Go.Proofs.YtipgpigcpbckgaaDoor
namespace Rows

/-- THE TIED CARD OF 'playpenlaw08.ImageTurned'. -/
def imageTurnedCard : Claim7 := { stood := { row := imageTurnedRow, standIns := [], harness := (true, "0e633bc622baf9315081843d1dfe5fb35e9e748dcd27a0e8f837450ce544a6b3"), looks := false }, kinds := [], alts := [], laidByText := true, laidKinds := [.data], laidTests := true, laidLooks := .later }
def ImageTurnedCardSaid : Prop := Claim7.holds Tryd.pinned (.plain (OpenSpec.ofChange imageTurnedSpec)) imageTurnedCard

/-- THE TIED CARD OF 'playpenlaw08.ImageGaps'. -/
def imageGapsCard : Claim7 := { stood := { row := imageGapsRow, standIns := [], harness := (true, "0e633bc622baf9315081843d1dfe5fb35e9e748dcd27a0e8f837450ce544a6b3"), looks := false }, kinds := [], alts := [], laidByText := true, laidKinds := [.data], laidTests := true, laidLooks := .later }
def ImageGapsCardSaid : Prop := Claim7.holds Tryd.pinned (.plain (OpenSpec.ofChange imageGapsSpec)) imageGapsCard

/-- THE SECOND FORM's CARD OF 'playpenlaw08.ImageTurned'. -/
def imageTurnedUptoCard : Claim7 := { stood := { row := imageTurnedUptoRow, standIns := [], harness := (true, "0e633bc622baf9315081843d1dfe5fb35e9e748dcd27a0e8f837450ce544a6b3"), looks := false }, kinds := [], alts := [], laidByText := true, laidKinds := [.data], laidTests := true, laidLooks := .later }
def ImageTurnedUptoCardSaid : Prop := Claim7.holds Tryd.pinned (.plain (OpenSpec.upto imageTurnedSpec)) imageTurnedUptoCard

/-- THE SECOND FORM's CARD OF 'playpenlaw08.ImageGaps'. -/
def imageGapsUptoCard : Claim7 := { stood := { row := imageGapsUptoRow, standIns := [], harness := (true, "0e633bc622baf9315081843d1dfe5fb35e9e748dcd27a0e8f837450ce544a6b3"), looks := false }, kinds := [], alts := [], laidByText := true, laidKinds := [.data], laidTests := true, laidLooks := .later }
def ImageGapsUptoCardSaid : Prop := Claim7.holds Tryd.pinned (.plain (OpenSpec.upto imageGapsSpec)) imageGapsUptoCard
end Rows
end Go.Proofs.YtipgpigcpbckgaaDoor
