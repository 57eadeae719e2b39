/-
  DERIVED. GIVEN WITH THE SEED: THE CARDS: each row of YtcmfephbhbgoiaaDoorRows.lean that lists a variable, with what it lists TIED to the program's text (the seventh form; the later family's looks); each row that meets fmt, with fmt's text TOLD by the authors' own Lean function (tested against real Go, not proved from fmt's source: count such statements apart). THE CARD IS WHAT COUNTS. Prove the row's statement (the work); the ties are given (YtcmfephbhbgoiaaDoorTie.lean); close each card by the builder's one call (the guide's Derived/Test/ToyasCard.lean, 'card_holds'). Laid BY PROGRAM, IN A SANDBOX (cutbox-door.mjs). By AI agents, Wed Nov 11 2026. No macro, syntax, notation, axiom, sorry.
-/
import Derived.Test.YtcmfephbhbgoiaaDoorRows
import GoSem.ClaimSeven
namespace Go.Proofs.YtcmfephbhbgoiaaDoor
namespace Rows

/-- THE TIED CARD OF 'playpenlaw16.GateNone'. -/
def gateNoneCard : Claim7 := { stood := { row := gateNoneRow, standIns := [], harness := (true, "08f4e2d91b255b9dba17a887e67b1ef10f2aaa98a76201d97a465a86dd153549"), looks := true }, kinds := [], alts := [], laidByText := true, laidKinds := [.data, .data], laidTests := true, laidLooks := .later }
def GateNoneCardSaid : Prop := Claim7.holds Tryd.pinned (.plain (OpenSpec.ofChange gateNoneSpec)) gateNoneCard

/-- THE TIED CARD OF 'playpenlaw16.GateWrites'. -/
def gateWritesCard : Claim7 := { stood := { row := gateWritesRow, standIns := [], harness := (true, "08f4e2d91b255b9dba17a887e67b1ef10f2aaa98a76201d97a465a86dd153549"), looks := true }, kinds := [], alts := [], laidByText := true, laidKinds := [.data, .data], laidTests := true, laidLooks := .later }
def GateWritesCardSaid : Prop := Claim7.holds Tryd.pinned (.plain (OpenSpec.ofChange gateWritesSpec)) gateWritesCard

/-- THE TIED CARD OF 'playpenlaw16.GateKnown'. -/
def gateKnownCard : Claim7 := { stood := { row := gateKnownRow, standIns := [], harness := (true, "08f4e2d91b255b9dba17a887e67b1ef10f2aaa98a76201d97a465a86dd153549"), looks := true }, kinds := [], alts := [], laidByText := true, laidKinds := [.data, .data], laidTests := true, laidLooks := .later }
def GateKnownCardSaid : Prop := Claim7.holds Tryd.pinned (.plain (OpenSpec.ofChange gateKnownSpec)) gateKnownCard

/-- THE SECOND FORM's CARD OF 'playpenlaw16.GateNone'. -/
def gateNoneUptoCard : Claim7 := { stood := { row := gateNoneUptoRow, standIns := [], harness := (true, "08f4e2d91b255b9dba17a887e67b1ef10f2aaa98a76201d97a465a86dd153549"), looks := true }, kinds := [], alts := [], laidByText := true, laidKinds := [.data, .data], laidTests := true, laidLooks := .later }
def GateNoneUptoCardSaid : Prop := Claim7.holds Tryd.pinned (.plain (OpenSpec.upto gateNoneSpec)) gateNoneUptoCard

/-- THE SECOND FORM's CARD OF 'playpenlaw16.GateWrites'. -/
def gateWritesUptoCard : Claim7 := { stood := { row := gateWritesUptoRow, standIns := [], harness := (true, "08f4e2d91b255b9dba17a887e67b1ef10f2aaa98a76201d97a465a86dd153549"), looks := true }, kinds := [], alts := [], laidByText := true, laidKinds := [.data, .data], laidTests := true, laidLooks := .later }
def GateWritesUptoCardSaid : Prop := Claim7.holds Tryd.pinned (.plain (OpenSpec.upto gateWritesSpec)) gateWritesUptoCard

/-- THE SECOND FORM's CARD OF 'playpenlaw16.GateKnown'. -/
def gateKnownUptoCard : Claim7 := { stood := { row := gateKnownUptoRow, standIns := [], harness := (true, "08f4e2d91b255b9dba17a887e67b1ef10f2aaa98a76201d97a465a86dd153549"), looks := true }, kinds := [], alts := [], laidByText := true, laidKinds := [.data, .data], laidTests := true, laidLooks := .later }
def GateKnownUptoCardSaid : Prop := Claim7.holds Tryd.pinned (.plain (OpenSpec.upto gateKnownSpec)) gateKnownUptoCard
end Rows
end Go.Proofs.YtcmfephbhbgoiaaDoor
