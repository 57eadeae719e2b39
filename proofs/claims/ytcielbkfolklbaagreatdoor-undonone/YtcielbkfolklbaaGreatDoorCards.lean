/-
  DERIVED. GIVEN WITH THE SEED: THE CARDS: each row of YtcielbkfolklbaaGreatDoorRows.lean that lists a variable, with what it lists TIED to the program's text (the seventh form; the later family's looks); each row that meets fmt, with fmt's text TOLD by the authors' own Lean function (tested against real Go, not proved from fmt's source: count such statements apart). THE CARD IS WHAT COUNTS. Prove the row's statement (the work); the ties are given (YtcielbkfolklbaaGreatDoorTie.lean); close each card by the builder's one call (the guide's Derived/Test/ToyasCard.lean, 'card_holds'). Laid BY PROGRAM, IN A SANDBOX (cutbox-door.mjs). By AI agents, Wed Nov 11 2026. No macro, syntax, notation, axiom, sorry.
-/
import Derived.Test.YtcielbkfolklbaaGreatDoorRows
import GoSem.ClaimSeven
namespace Go.Proofs.YtcielbkfolklbaaGreatDoor
namespace Rows

/-- THE TIED CARD OF 'playpenlaw25.UndoNone'. -/
def undoNoneCard : Claim7 := { stood := { row := undoNoneRow, standIns := [], harness := (true, "7841b8f3bf3fd0d069cdef0c2e4b90d2d0316df00d1ab641864ffe421ca9ab1c"), looks := true }, kinds := [], alts := [], laidByText := true, laidKinds := [.data, .data], laidTests := true, laidLooks := .later }
def UndoNoneCardSaid : Prop := Claim7.holds Tryz.pinned (.plain (OpenSpec.ofChange undoNoneSpec)) undoNoneCard

/-- THE SECOND FORM's CARD OF 'playpenlaw25.UndoNone'. -/
def undoNoneUptoCard : Claim7 := { stood := { row := undoNoneUptoRow, standIns := [], harness := (true, "7841b8f3bf3fd0d069cdef0c2e4b90d2d0316df00d1ab641864ffe421ca9ab1c"), looks := true }, kinds := [], alts := [], laidByText := true, laidKinds := [.data, .data], laidTests := true, laidLooks := .later }
def UndoNoneUptoCardSaid : Prop := Claim7.holds Tryz.pinned (.plain (OpenSpec.upto undoNoneSpec)) undoNoneUptoCard
end Rows
end Go.Proofs.YtcielbkfolklbaaGreatDoor
