/-
  DERIVED. GIVEN WITH THE SEED: THE CARDS: each row of YtjjlnahkkmachaaGreatDoorRows.lean that lists a variable, with what it lists TIED to the program's text (the seventh form; the later family's looks); each row that meets fmt, with fmt's text TOLD by the authors' own Lean function (tested against real Go, not proved from fmt's source: count such statements apart). THE CARD IS WHAT COUNTS. Prove the row's statement (the work); the ties are given (YtjjlnahkkmachaaGreatDoorTie.lean); close each card by the builder's one call (the guide's Derived/Test/ToyasCard.lean, 'card_holds'). Laid BY PROGRAM, IN A SANDBOX (cutbox-door.mjs). By AI agents, Wed Nov 11 2026. No macro, syntax, notation, axiom, sorry.
-/
import Derived.Test.YtjjlnahkkmachaaGreatDoorRows
import GoSem.ClaimSeven
namespace Go.Proofs.YtjjlnahkkmachaaGreatDoor
namespace Rows

/-- THE TIED CARD OF 'playpenlaw19.RunNone'. -/
def runNoneCard : Claim7 := { stood := { row := runNoneRow, standIns := [], harness := (true, "0b8157113f9db8ac1f1bac61cb4efae9edc00a51afd9f3c23a06f23c10e12dd4"), looks := true }, kinds := [], alts := [], laidByText := true, laidKinds := [.data, .data], laidTests := true, laidLooks := .later }
def RunNoneCardSaid : Prop := Claim7.holds Tryz.pinned (.plain (OpenSpec.ofChange runNoneSpec)) runNoneCard

/-- THE TIED CARD OF 'playpenlaw19.RunCut'. -/
def runCutCard : Claim7 := { stood := { row := runCutRow, standIns := [], harness := (true, "0b8157113f9db8ac1f1bac61cb4efae9edc00a51afd9f3c23a06f23c10e12dd4"), looks := true }, kinds := [], alts := [], laidByText := true, laidKinds := [.data, .data], laidTests := true, laidLooks := .later }
def RunCutCardSaid : Prop := Claim7.holds Tryz.pinned (.plain (OpenSpec.ofChange runCutSpec)) runCutCard

/-- THE TIED CARD OF 'playpenlaw19.RunEnded'. -/
def runEndedCard : Claim7 := { stood := { row := runEndedRow, standIns := [], harness := (true, "0b8157113f9db8ac1f1bac61cb4efae9edc00a51afd9f3c23a06f23c10e12dd4"), looks := true }, kinds := [], alts := [], laidByText := true, laidKinds := [.data, .data], laidTests := true, laidLooks := .later }
def RunEndedCardSaid : Prop := Claim7.holds Tryz.pinned (.plain (OpenSpec.ofChange runEndedSpec)) runEndedCard

/-- THE TIED CARD OF 'playpenlaw19.RunKnown'. -/
def runKnownCard : Claim7 := { stood := { row := runKnownRow, standIns := [], harness := (true, "0b8157113f9db8ac1f1bac61cb4efae9edc00a51afd9f3c23a06f23c10e12dd4"), looks := true }, kinds := [], alts := [], laidByText := true, laidKinds := [.data, .data], laidTests := true, laidLooks := .later }
def RunKnownCardSaid : Prop := Claim7.holds Tryz.pinned (.plain (OpenSpec.ofChange runKnownSpec)) runKnownCard

/-- THE SECOND FORM's CARD OF 'playpenlaw19.RunNone'. -/
def runNoneUptoCard : Claim7 := { stood := { row := runNoneUptoRow, standIns := [], harness := (true, "0b8157113f9db8ac1f1bac61cb4efae9edc00a51afd9f3c23a06f23c10e12dd4"), looks := true }, kinds := [], alts := [], laidByText := true, laidKinds := [.data, .data], laidTests := true, laidLooks := .later }
def RunNoneUptoCardSaid : Prop := Claim7.holds Tryz.pinned (.plain (OpenSpec.upto runNoneSpec)) runNoneUptoCard

/-- THE SECOND FORM's CARD OF 'playpenlaw19.RunCut'. -/
def runCutUptoCard : Claim7 := { stood := { row := runCutUptoRow, standIns := [], harness := (true, "0b8157113f9db8ac1f1bac61cb4efae9edc00a51afd9f3c23a06f23c10e12dd4"), looks := true }, kinds := [], alts := [], laidByText := true, laidKinds := [.data, .data], laidTests := true, laidLooks := .later }
def RunCutUptoCardSaid : Prop := Claim7.holds Tryz.pinned (.plain (OpenSpec.upto runCutSpec)) runCutUptoCard

/-- THE SECOND FORM's CARD OF 'playpenlaw19.RunEnded'. -/
def runEndedUptoCard : Claim7 := { stood := { row := runEndedUptoRow, standIns := [], harness := (true, "0b8157113f9db8ac1f1bac61cb4efae9edc00a51afd9f3c23a06f23c10e12dd4"), looks := true }, kinds := [], alts := [], laidByText := true, laidKinds := [.data, .data], laidTests := true, laidLooks := .later }
def RunEndedUptoCardSaid : Prop := Claim7.holds Tryz.pinned (.plain (OpenSpec.upto runEndedSpec)) runEndedUptoCard

/-- THE SECOND FORM's CARD OF 'playpenlaw19.RunKnown'. -/
def runKnownUptoCard : Claim7 := { stood := { row := runKnownUptoRow, standIns := [], harness := (true, "0b8157113f9db8ac1f1bac61cb4efae9edc00a51afd9f3c23a06f23c10e12dd4"), looks := true }, kinds := [], alts := [], laidByText := true, laidKinds := [.data, .data], laidTests := true, laidLooks := .later }
def RunKnownUptoCardSaid : Prop := Claim7.holds Tryz.pinned (.plain (OpenSpec.upto runKnownSpec)) runKnownUptoCard
end Rows
end Go.Proofs.YtjjlnahkkmachaaGreatDoor
