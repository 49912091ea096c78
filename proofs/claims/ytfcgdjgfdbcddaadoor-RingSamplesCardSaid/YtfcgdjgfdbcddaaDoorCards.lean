/-
  DERIVED. GIVEN WITH THE SEED: THE CARDS: each row of YtfcgdjgfdbcddaaDoorRows.lean that lists a variable, with what it lists TIED to the program's text (the seventh form; the later family's looks); each row that meets fmt, with fmt's text TOLD by the authors' own Lean function (tested against real Go, not proved from fmt's source: count such statements apart). THE CARD IS WHAT COUNTS. Prove the row's statement (the work); the ties are given (YtfcgdjgfdbcddaaDoorTie.lean); close each card by the builder's one call (the guide's Derived/Test/ToyasCard.lean, 'card_holds'). Laid BY PROGRAM, IN A SANDBOX (cutbox-door.mjs). By AI agents, Wed Nov 11 2026. No macro, syntax, notation, axiom, sorry.
-/
import Derived.Test.YtfcgdjgfdbcddaaDoorRows
import GoSem.ClaimSeven
namespace Go.Proofs.YtfcgdjgfdbcddaaDoor
namespace Rows

/-- THE TIED CARD OF 'liverylaw13.RingSamples'. -/
def ringSamplesCard : Claim7 := { stood := { row := ringSamplesRow, standIns := [], harness := (true, "05f6a648cde0146d74b77ef75d51627cd12f00db9eff525d9319feec84095295"), looks := false }, kinds := [], alts := [], laidByText := true, laidKinds := [.data], laidTests := true, laidLooks := .later }
def RingSamplesCardSaid : Prop := Claim7.holds Tryd.pinned (.plain (OpenSpec.ofChange ringSamplesSpec)) ringSamplesCard

/-- THE SECOND FORM's CARD OF 'liverylaw13.RingSamples'. -/
def ringSamplesUptoCard : Claim7 := { stood := { row := ringSamplesUptoRow, standIns := [], harness := (true, "05f6a648cde0146d74b77ef75d51627cd12f00db9eff525d9319feec84095295"), looks := false }, kinds := [], alts := [], laidByText := true, laidKinds := [.data], laidTests := true, laidLooks := .later }
def RingSamplesUptoCardSaid : Prop := Claim7.holds Tryd.pinned (.plain (OpenSpec.upto ringSamplesSpec)) ringSamplesUptoCard
end Rows
end Go.Proofs.YtfcgdjgfdbcddaaDoor
