/-
  DERIVED. GIVEN WITH THE SEED: THE CARDS: each row of YtgbpfejodpplbaaGreatDoorRows.lean that lists a variable, with what it lists TIED to the program's text (the seventh form; the later family's looks); each row that meets fmt, with fmt's text TOLD by the authors' own Lean function (tested against real Go, not proved from fmt's source: count such statements apart). THE CARD IS WHAT COUNTS. Prove the row's statement (the work); the ties are given (YtgbpfejodpplbaaGreatDoorTie.lean); close each card by the builder's one call (the guide's Derived/Test/ToyasCard.lean, 'card_holds'). Laid BY PROGRAM, IN A SANDBOX (cutbox-door.mjs). By AI agents, Wed Nov 11 2026. No macro, syntax, notation, axiom, sorry.
-/
import Derived.Test.YtgbpfejodpplbaaGreatDoorRows
import GoSem.ClaimSeven
namespace Go.Proofs.YtgbpfejodpplbaaGreatDoor
namespace Rows

/-- THE TIED CARD OF 'playpenlaw21.FoldCovers'. -/
def foldCoversCard : Claim7 := { stood := { row := foldCoversRow, standIns := [], harness := (true, "7f44202c59039bac4f925b71540e586f6f1eb079f8fc30dbef57f61d2153916c"), looks := true }, kinds := [], alts := [], laidByText := true, laidKinds := [.data], laidTests := true, laidLooks := .later }
def FoldCoversCardSaid : Prop := Claim7.holds Tryz.pinned (.plain (OpenSpec.ofChange foldCoversSpec)) foldCoversCard

/-- THE SECOND FORM's CARD OF 'playpenlaw21.FoldCovers'. -/
def foldCoversUptoCard : Claim7 := { stood := { row := foldCoversUptoRow, standIns := [], harness := (true, "7f44202c59039bac4f925b71540e586f6f1eb079f8fc30dbef57f61d2153916c"), looks := true }, kinds := [], alts := [], laidByText := true, laidKinds := [.data], laidTests := true, laidLooks := .later }
def FoldCoversUptoCardSaid : Prop := Claim7.holds Tryz.pinned (.plain (OpenSpec.upto foldCoversSpec)) foldCoversUptoCard
end Rows
end Go.Proofs.YtgbpfejodpplbaaGreatDoor
