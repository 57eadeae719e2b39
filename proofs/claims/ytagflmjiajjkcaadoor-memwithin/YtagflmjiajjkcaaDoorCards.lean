/-
  DERIVED. GIVEN WITH THE SEED: THE CARDS: each row of YtagflmjiajjkcaaDoorRows.lean that lists a variable, with what it lists TIED to the program's text (the seventh form; the later family's looks); each row that meets fmt, with fmt's text TOLD by the authors' own Lean function (tested against real Go, not proved from fmt's source: count such statements apart). THE CARD IS WHAT COUNTS. Prove the row's statement (the work); the ties are given (YtagflmjiajjkcaaDoorTie.lean); close each card by the builder's one call (the guide's Derived/Test/ToyasCard.lean, 'card_holds'). Laid BY PROGRAM, IN A SANDBOX (cutbox-door.mjs). By AI agents, Wed Nov 11 2026. No macro, syntax, notation, axiom, sorry.
-/
import Derived.Test.YtagflmjiajjkcaaDoorRows
import GoSem.ClaimSeven
namespace Go.Proofs.YtagflmjiajjkcaaDoor
namespace Rows

/-- THE TIED CARD OF 'playpenlaw09.MemNames'. -/
def memNamesCard : Claim7 := { stood := { row := memNamesRow, standIns := [], harness := (true, "7abd68d572643a20e8c645fd3e17cbf48c45639bbdf03713b654c1e219f6e2a3"), looks := false }, kinds := [], alts := [], laidByText := true, laidKinds := [.data, .data], laidTests := true, laidLooks := .later }
def MemNamesCardSaid : Prop := Claim7.holds Tryd.pinned (.plain (OpenSpec.ofChange memNamesSpec)) memNamesCard

/-- THE TIED CARD OF 'playpenlaw09.MemNil'. -/
def memNilCard : Claim7 := { stood := { row := memNilRow, standIns := [], harness := (true, "7abd68d572643a20e8c645fd3e17cbf48c45639bbdf03713b654c1e219f6e2a3"), looks := false }, kinds := [], alts := [], laidByText := true, laidKinds := [.data, .data], laidTests := true, laidLooks := .later }
def MemNilCardSaid : Prop := Claim7.holds Tryd.pinned (.plain (OpenSpec.ofChange memNilSpec)) memNilCard

/-- THE TIED CARD OF 'playpenlaw09.MemBack'. -/
def memBackCard : Claim7 := { stood := { row := memBackRow, standIns := [], harness := (true, "7abd68d572643a20e8c645fd3e17cbf48c45639bbdf03713b654c1e219f6e2a3"), looks := false }, kinds := [], alts := [], laidByText := true, laidKinds := [.data, .data], laidTests := true, laidLooks := .later }
def MemBackCardSaid : Prop := Claim7.holds Tryd.pinned (.plain (OpenSpec.ofChange memBackSpec)) memBackCard

/-- THE TIED CARD OF 'playpenlaw09.MemWithin'. -/
def memWithinCard : Claim7 := { stood := { row := memWithinRow, standIns := [], harness := (true, "7abd68d572643a20e8c645fd3e17cbf48c45639bbdf03713b654c1e219f6e2a3"), looks := false }, kinds := [], alts := [], laidByText := true, laidKinds := [.data, .data], laidTests := true, laidLooks := .later }
def MemWithinCardSaid : Prop := Claim7.holds Tryd.pinned (.plain (OpenSpec.ofChange memWithinSpec)) memWithinCard

/-- THE TIED CARD OF 'playpenlaw09.MemCopies'. -/
def memCopiesCard : Claim7 := { stood := { row := memCopiesRow, standIns := [], harness := (true, "7abd68d572643a20e8c645fd3e17cbf48c45639bbdf03713b654c1e219f6e2a3"), looks := false }, kinds := [], alts := [], laidByText := true, laidKinds := [.data, .data], laidTests := true, laidLooks := .later }
def MemCopiesCardSaid : Prop := Claim7.holds Tryd.pinned (.plain (OpenSpec.ofChange memCopiesSpec)) memCopiesCard

/-- THE SECOND FORM's CARD OF 'playpenlaw09.MemNames'. -/
def memNamesUptoCard : Claim7 := { stood := { row := memNamesUptoRow, standIns := [], harness := (true, "7abd68d572643a20e8c645fd3e17cbf48c45639bbdf03713b654c1e219f6e2a3"), looks := false }, kinds := [], alts := [], laidByText := true, laidKinds := [.data, .data], laidTests := true, laidLooks := .later }
def MemNamesUptoCardSaid : Prop := Claim7.holds Tryd.pinned (.plain (OpenSpec.upto memNamesSpec)) memNamesUptoCard

/-- THE SECOND FORM's CARD OF 'playpenlaw09.MemNil'. -/
def memNilUptoCard : Claim7 := { stood := { row := memNilUptoRow, standIns := [], harness := (true, "7abd68d572643a20e8c645fd3e17cbf48c45639bbdf03713b654c1e219f6e2a3"), looks := false }, kinds := [], alts := [], laidByText := true, laidKinds := [.data, .data], laidTests := true, laidLooks := .later }
def MemNilUptoCardSaid : Prop := Claim7.holds Tryd.pinned (.plain (OpenSpec.upto memNilSpec)) memNilUptoCard

/-- THE SECOND FORM's CARD OF 'playpenlaw09.MemBack'. -/
def memBackUptoCard : Claim7 := { stood := { row := memBackUptoRow, standIns := [], harness := (true, "7abd68d572643a20e8c645fd3e17cbf48c45639bbdf03713b654c1e219f6e2a3"), looks := false }, kinds := [], alts := [], laidByText := true, laidKinds := [.data, .data], laidTests := true, laidLooks := .later }
def MemBackUptoCardSaid : Prop := Claim7.holds Tryd.pinned (.plain (OpenSpec.upto memBackSpec)) memBackUptoCard

/-- THE SECOND FORM's CARD OF 'playpenlaw09.MemWithin'. -/
def memWithinUptoCard : Claim7 := { stood := { row := memWithinUptoRow, standIns := [], harness := (true, "7abd68d572643a20e8c645fd3e17cbf48c45639bbdf03713b654c1e219f6e2a3"), looks := false }, kinds := [], alts := [], laidByText := true, laidKinds := [.data, .data], laidTests := true, laidLooks := .later }
def MemWithinUptoCardSaid : Prop := Claim7.holds Tryd.pinned (.plain (OpenSpec.upto memWithinSpec)) memWithinUptoCard

/-- THE SECOND FORM's CARD OF 'playpenlaw09.MemCopies'. -/
def memCopiesUptoCard : Claim7 := { stood := { row := memCopiesUptoRow, standIns := [], harness := (true, "7abd68d572643a20e8c645fd3e17cbf48c45639bbdf03713b654c1e219f6e2a3"), looks := false }, kinds := [], alts := [], laidByText := true, laidKinds := [.data, .data], laidTests := true, laidLooks := .later }
def MemCopiesUptoCardSaid : Prop := Claim7.holds Tryd.pinned (.plain (OpenSpec.upto memCopiesSpec)) memCopiesUptoCard
end Rows
end Go.Proofs.YtagflmjiajjkcaaDoor
