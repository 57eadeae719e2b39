/-
  DERIVED. GIVEN WITH THE SEED: THE CARDS: each row of YtnlfgijmkgihcaaDoorRows.lean that lists a variable, with what it lists TIED to the program's text (the seventh form; the later family's looks); each row that meets fmt, with fmt's text TOLD by the authors' own Lean function (tested against real Go, not proved from fmt's source: count such statements apart). THE CARD IS WHAT COUNTS. Prove the row's statement (the work); the ties are given (YtnlfgijmkgihcaaDoorTie.lean); close each card by the builder's one call (the guide's Derived/Test/ToyasCard.lean, 'card_holds'). Laid BY PROGRAM, IN A SANDBOX (cutbox-door.mjs). By AI agents, Wed Nov 11 2026. No macro, syntax, notation, axiom, sorry.
-/
import Derived.Test.YtnlfgijmkgihcaaDoorRows
import GoSem.ClaimSeven
namespace Go.Proofs.YtnlfgijmkgihcaaDoor
namespace Rows

/-- THE TIED CARD OF 'playpenlaw13.ProcsNone'. -/
def procsNoneCard : Claim7 := { stood := { row := procsNoneRow, standIns := [], harness := (true, "8ea86f2d09d07fbf8cdf89be05e2ad658f79327869741b57a49725be0d08824b"), looks := false }, kinds := [], alts := [], laidByText := true, laidKinds := [.data], laidTests := true, laidLooks := .later }
def ProcsNoneCardSaid : Prop := Claim7.holds Tryd.pinned (.plain (OpenSpec.ofChange procsNoneSpec)) procsNoneCard

/-- THE TIED CARD OF 'playpenlaw13.ProcsSets'. -/
def procsSetsCard : Claim7 := { stood := { row := procsSetsRow, standIns := [], harness := (true, "8ea86f2d09d07fbf8cdf89be05e2ad658f79327869741b57a49725be0d08824b"), looks := false }, kinds := [], alts := [], laidByText := true, laidKinds := [.data], laidTests := true, laidLooks := .later }
def ProcsSetsCardSaid : Prop := Claim7.holds Tryd.pinned (.plain (OpenSpec.ofChange procsSetsSpec)) procsSetsCard

/-- THE TIED CARD OF 'playpenlaw13.ProcsNumbers'. -/
def procsNumbersCard : Claim7 := { stood := { row := procsNumbersRow, standIns := [], harness := (true, "8ea86f2d09d07fbf8cdf89be05e2ad658f79327869741b57a49725be0d08824b"), looks := false }, kinds := [], alts := [], laidByText := true, laidKinds := [.data], laidTests := true, laidLooks := .later }
def ProcsNumbersCardSaid : Prop := Claim7.holds Tryd.pinned (.plain (OpenSpec.ofChange procsNumbersSpec)) procsNumbersCard

/-- THE SECOND FORM's CARD OF 'playpenlaw13.ProcsNone'. -/
def procsNoneUptoCard : Claim7 := { stood := { row := procsNoneUptoRow, standIns := [], harness := (true, "8ea86f2d09d07fbf8cdf89be05e2ad658f79327869741b57a49725be0d08824b"), looks := false }, kinds := [], alts := [], laidByText := true, laidKinds := [.data], laidTests := true, laidLooks := .later }
def ProcsNoneUptoCardSaid : Prop := Claim7.holds Tryd.pinned (.plain (OpenSpec.upto procsNoneSpec)) procsNoneUptoCard

/-- THE SECOND FORM's CARD OF 'playpenlaw13.ProcsSets'. -/
def procsSetsUptoCard : Claim7 := { stood := { row := procsSetsUptoRow, standIns := [], harness := (true, "8ea86f2d09d07fbf8cdf89be05e2ad658f79327869741b57a49725be0d08824b"), looks := false }, kinds := [], alts := [], laidByText := true, laidKinds := [.data], laidTests := true, laidLooks := .later }
def ProcsSetsUptoCardSaid : Prop := Claim7.holds Tryd.pinned (.plain (OpenSpec.upto procsSetsSpec)) procsSetsUptoCard

/-- THE SECOND FORM's CARD OF 'playpenlaw13.ProcsNumbers'. -/
def procsNumbersUptoCard : Claim7 := { stood := { row := procsNumbersUptoRow, standIns := [], harness := (true, "8ea86f2d09d07fbf8cdf89be05e2ad658f79327869741b57a49725be0d08824b"), looks := false }, kinds := [], alts := [], laidByText := true, laidKinds := [.data], laidTests := true, laidLooks := .later }
def ProcsNumbersUptoCardSaid : Prop := Claim7.holds Tryd.pinned (.plain (OpenSpec.upto procsNumbersSpec)) procsNumbersUptoCard
end Rows
end Go.Proofs.YtnlfgijmkgihcaaDoor
