/-
  DERIVED. GIVEN WITH THE SEED: THE CARDS: each row of YtihnkeflcnndpaaDoorRows.lean that lists a variable, with what it lists TIED to the program's text (the seventh form; the later family's looks); each row that meets fmt, with fmt's text TOLD by the authors' own Lean function (tested against real Go, not proved from fmt's source: count such statements apart). THE CARD IS WHAT COUNTS. Prove the row's statement (the work); the ties are given (YtihnkeflcnndpaaDoorTie.lean); close each card by the builder's one call (the guide's Derived/Test/ToyasCard.lean, 'card_holds'). Laid BY PROGRAM, IN A SANDBOX (cutbox-door.mjs). By AI agents, Wed Nov 11 2026. No macro, syntax, notation, axiom, sorry.
-/
import Derived.Test.YtihnkeflcnndpaaDoorRows
import GoSem.ClaimSeven
namespace Go.Proofs.YtihnkeflcnndpaaDoor
namespace Rows

/-- THE TIED CARD OF 'playpenlaw13.ProcsFind'. -/
def procsFindCard : Claim7 := { stood := { row := procsFindRow, standIns := [], harness := (true, "a11992bf2672d5252818e98613f383255a224db018a72680fde4123f6f06566c"), looks := false }, kinds := [], alts := [], laidByText := true, laidKinds := [.data], laidTests := true, laidLooks := .later }
def ProcsFindCardSaid : Prop := Claim7.holds Tryd.pinned (.plain (OpenSpec.ofChange procsFindSpec)) procsFindCard

/-- THE TIED CARD OF 'playpenlaw13.ProcsTile'. -/
def procsTileCard : Claim7 := { stood := { row := procsTileRow, standIns := [], harness := (true, "a11992bf2672d5252818e98613f383255a224db018a72680fde4123f6f06566c"), looks := false }, kinds := [], alts := [], laidByText := true, laidKinds := [.data], laidTests := true, laidLooks := .later }
def ProcsTileCardSaid : Prop := Claim7.holds Tryd.pinned (.plain (OpenSpec.ofChange procsTileSpec)) procsTileCard

/-- THE TIED CARD OF 'playpenlaw13.ProcsWithin'. -/
def procsWithinCard : Claim7 := { stood := { row := procsWithinRow, standIns := [], harness := (true, "a11992bf2672d5252818e98613f383255a224db018a72680fde4123f6f06566c"), looks := false }, kinds := [], alts := [], laidByText := true, laidKinds := [.data], laidTests := true, laidLooks := .later }
def ProcsWithinCardSaid : Prop := Claim7.holds Tryd.pinned (.plain (OpenSpec.ofChange procsWithinSpec)) procsWithinCard

/-- THE TIED CARD OF 'playpenlaw13.ProcsKnown'. -/
def procsKnownCard : Claim7 := { stood := { row := procsKnownRow, standIns := [], harness := (true, "a11992bf2672d5252818e98613f383255a224db018a72680fde4123f6f06566c"), looks := false }, kinds := [], alts := [], laidByText := true, laidKinds := [.data], laidTests := true, laidLooks := .later }
def ProcsKnownCardSaid : Prop := Claim7.holds Tryd.pinned (.plain (OpenSpec.ofChange procsKnownSpec)) procsKnownCard

/-- THE SECOND FORM's CARD OF 'playpenlaw13.ProcsFind'. -/
def procsFindUptoCard : Claim7 := { stood := { row := procsFindUptoRow, standIns := [], harness := (true, "a11992bf2672d5252818e98613f383255a224db018a72680fde4123f6f06566c"), looks := false }, kinds := [], alts := [], laidByText := true, laidKinds := [.data], laidTests := true, laidLooks := .later }
def ProcsFindUptoCardSaid : Prop := Claim7.holds Tryd.pinned (.plain (OpenSpec.upto procsFindSpec)) procsFindUptoCard

/-- THE SECOND FORM's CARD OF 'playpenlaw13.ProcsTile'. -/
def procsTileUptoCard : Claim7 := { stood := { row := procsTileUptoRow, standIns := [], harness := (true, "a11992bf2672d5252818e98613f383255a224db018a72680fde4123f6f06566c"), looks := false }, kinds := [], alts := [], laidByText := true, laidKinds := [.data], laidTests := true, laidLooks := .later }
def ProcsTileUptoCardSaid : Prop := Claim7.holds Tryd.pinned (.plain (OpenSpec.upto procsTileSpec)) procsTileUptoCard

/-- THE SECOND FORM's CARD OF 'playpenlaw13.ProcsWithin'. -/
def procsWithinUptoCard : Claim7 := { stood := { row := procsWithinUptoRow, standIns := [], harness := (true, "a11992bf2672d5252818e98613f383255a224db018a72680fde4123f6f06566c"), looks := false }, kinds := [], alts := [], laidByText := true, laidKinds := [.data], laidTests := true, laidLooks := .later }
def ProcsWithinUptoCardSaid : Prop := Claim7.holds Tryd.pinned (.plain (OpenSpec.upto procsWithinSpec)) procsWithinUptoCard

/-- THE SECOND FORM's CARD OF 'playpenlaw13.ProcsKnown'. -/
def procsKnownUptoCard : Claim7 := { stood := { row := procsKnownUptoRow, standIns := [], harness := (true, "a11992bf2672d5252818e98613f383255a224db018a72680fde4123f6f06566c"), looks := false }, kinds := [], alts := [], laidByText := true, laidKinds := [.data], laidTests := true, laidLooks := .later }
def ProcsKnownUptoCardSaid : Prop := Claim7.holds Tryd.pinned (.plain (OpenSpec.upto procsKnownSpec)) procsKnownUptoCard
end Rows
end Go.Proofs.YtihnkeflcnndpaaDoor
