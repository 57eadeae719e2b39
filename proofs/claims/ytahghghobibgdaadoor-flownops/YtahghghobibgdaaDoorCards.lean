/-
  DERIVED. GIVEN WITH THE SEED: THE CARDS: each row of YtahghghobibgdaaDoorRows.lean that lists a variable, with what it lists TIED to the program's text (the seventh form; the later family's looks); each row that meets fmt, with fmt's text TOLD by the authors' own Lean function (tested against real Go, not proved from fmt's source: count such statements apart). THE CARD IS WHAT COUNTS. Prove the row's statement (the work); the ties are given (YtahghghobibgdaaDoorTie.lean); close each card by the builder's one call (the guide's Derived/Test/ToyasCard.lean, 'card_holds'). Laid BY PROGRAM, IN A SANDBOX (cutbox-door.mjs). By AI agents, Wed Nov 11 2026. No macro, syntax, notation, axiom, sorry.
-/
import Derived.Test.YtahghghobibgdaaDoorRows
import GoSem.ClaimSeven
namespace Go.Proofs.YtahghghobibgdaaDoor
namespace Rows

/-- THE TIED CARD OF 'playpenlaw14.FlowSound'. -/
def flowSoundCard : Claim7 := { stood := { row := flowSoundRow, standIns := [], harness := (true, "f79082c5c737c98bbccfaf6eaf3225ab9c21df469bdaf00e8625300e27564967"), looks := true }, kinds := [], alts := [], laidByText := true, laidKinds := [.data], laidTests := true, laidLooks := .later }
def FlowSoundCardSaid : Prop := Claim7.holds Tryd.pinned (.plain (OpenSpec.ofChange flowSoundSpec)) flowSoundCard

/-- THE TIED CARD OF 'playpenlaw14.FlowNops'. -/
def flowNopsCard : Claim7 := { stood := { row := flowNopsRow, standIns := [], harness := (true, "f79082c5c737c98bbccfaf6eaf3225ab9c21df469bdaf00e8625300e27564967"), looks := true }, kinds := [], alts := [], laidByText := true, laidKinds := [.data], laidTests := true, laidLooks := .later }
def FlowNopsCardSaid : Prop := Claim7.holds Tryd.pinned (.plain (OpenSpec.ofChange flowNopsSpec)) flowNopsCard

/-- THE TIED CARD OF 'playpenlaw14.FlowTiles'. -/
def flowTilesCard : Claim7 := { stood := { row := flowTilesRow, standIns := [], harness := (true, "f79082c5c737c98bbccfaf6eaf3225ab9c21df469bdaf00e8625300e27564967"), looks := true }, kinds := [], alts := [], laidByText := true, laidKinds := [.data], laidTests := true, laidLooks := .later }
def FlowTilesCardSaid : Prop := Claim7.holds Tryd.pinned (.plain (OpenSpec.ofChange flowTilesSpec)) flowTilesCard

/-- THE SECOND FORM's CARD OF 'playpenlaw14.FlowSound'. -/
def flowSoundUptoCard : Claim7 := { stood := { row := flowSoundUptoRow, standIns := [], harness := (true, "f79082c5c737c98bbccfaf6eaf3225ab9c21df469bdaf00e8625300e27564967"), looks := true }, kinds := [], alts := [], laidByText := true, laidKinds := [.data], laidTests := true, laidLooks := .later }
def FlowSoundUptoCardSaid : Prop := Claim7.holds Tryd.pinned (.plain (OpenSpec.upto flowSoundSpec)) flowSoundUptoCard

/-- THE SECOND FORM's CARD OF 'playpenlaw14.FlowNops'. -/
def flowNopsUptoCard : Claim7 := { stood := { row := flowNopsUptoRow, standIns := [], harness := (true, "f79082c5c737c98bbccfaf6eaf3225ab9c21df469bdaf00e8625300e27564967"), looks := true }, kinds := [], alts := [], laidByText := true, laidKinds := [.data], laidTests := true, laidLooks := .later }
def FlowNopsUptoCardSaid : Prop := Claim7.holds Tryd.pinned (.plain (OpenSpec.upto flowNopsSpec)) flowNopsUptoCard

/-- THE SECOND FORM's CARD OF 'playpenlaw14.FlowTiles'. -/
def flowTilesUptoCard : Claim7 := { stood := { row := flowTilesUptoRow, standIns := [], harness := (true, "f79082c5c737c98bbccfaf6eaf3225ab9c21df469bdaf00e8625300e27564967"), looks := true }, kinds := [], alts := [], laidByText := true, laidKinds := [.data], laidTests := true, laidLooks := .later }
def FlowTilesUptoCardSaid : Prop := Claim7.holds Tryd.pinned (.plain (OpenSpec.upto flowTilesSpec)) flowTilesUptoCard
end Rows
end Go.Proofs.YtahghghobibgdaaDoor
