/-
  DERIVED. GIVEN WITH THE SEED: THE CARDS: each row of YtnjglagfpghbjaaDoorRows.lean that lists a variable, with what it lists TIED to the program's text (the seventh form; the later family's looks); each row that meets fmt, with fmt's text TOLD by the authors' own Lean function (tested against real Go, not proved from fmt's source: count such statements apart). THE CARD IS WHAT COUNTS. Prove the row's statement (the work); the ties are given (YtnjglagfpghbjaaDoorTie.lean); close each card by the builder's one call (the guide's Derived/Test/ToyasCard.lean, 'card_holds'). Laid BY PROGRAM, IN A SANDBOX (cutbox-door.mjs). By AI agents, Wed Nov 11 2026. No macro, syntax, notation, axiom, sorry.
-/
import Derived.Test.YtnjglagfpghbjaaDoorRows
import GoSem.ClaimSeven
namespace Go.Proofs.YtnjglagfpghbjaaDoor
namespace Rows

/-- THE TIED CARD OF 'playpenlaw09.MemPlays'. -/
def memPlaysCard : Claim7 := { stood := { row := memPlaysRow, standIns := [], harness := (true, "de986c267998a7e1c17991007bbe58b634d83a9f70109dc04a3819843e274912"), looks := false }, kinds := [], alts := [], laidByText := true, laidKinds := [.data, .data], laidTests := true, laidLooks := .later }
def MemPlaysCardSaid : Prop := Claim7.holds Tryd.pinned (.plain (OpenSpec.ofChange memPlaysSpec)) memPlaysCard

/-- THE TIED CARD OF 'playpenlaw09.MemLogs'. -/
def memLogsCard : Claim7 := { stood := { row := memLogsRow, standIns := [], harness := (true, "de986c267998a7e1c17991007bbe58b634d83a9f70109dc04a3819843e274912"), looks := false }, kinds := [], alts := [], laidByText := true, laidKinds := [.data, .data], laidTests := true, laidLooks := .later }
def MemLogsCardSaid : Prop := Claim7.holds Tryd.pinned (.plain (OpenSpec.ofChange memLogsSpec)) memLogsCard

/-- THE SECOND FORM's CARD OF 'playpenlaw09.MemPlays'. -/
def memPlaysUptoCard : Claim7 := { stood := { row := memPlaysUptoRow, standIns := [], harness := (true, "de986c267998a7e1c17991007bbe58b634d83a9f70109dc04a3819843e274912"), looks := false }, kinds := [], alts := [], laidByText := true, laidKinds := [.data, .data], laidTests := true, laidLooks := .later }
def MemPlaysUptoCardSaid : Prop := Claim7.holds Tryd.pinned (.plain (OpenSpec.upto memPlaysSpec)) memPlaysUptoCard

/-- THE SECOND FORM's CARD OF 'playpenlaw09.MemLogs'. -/
def memLogsUptoCard : Claim7 := { stood := { row := memLogsUptoRow, standIns := [], harness := (true, "de986c267998a7e1c17991007bbe58b634d83a9f70109dc04a3819843e274912"), looks := false }, kinds := [], alts := [], laidByText := true, laidKinds := [.data, .data], laidTests := true, laidLooks := .later }
def MemLogsUptoCardSaid : Prop := Claim7.holds Tryd.pinned (.plain (OpenSpec.upto memLogsSpec)) memLogsUptoCard
end Rows
end Go.Proofs.YtnjglagfpghbjaaDoor
