/-
  DERIVED. GIVEN WITH THE SEED: THE CARDS: each row of YtbjpbeplpljieaaDoorRows.lean that lists a variable, with what it lists TIED to the program's text (the seventh form; the later family's looks); each row that meets fmt, with fmt's text TOLD by the authors' own Lean function (tested against real Go, not proved from fmt's source: count such statements apart). THE CARD IS WHAT COUNTS. Prove the row's statement (the work); the ties are given (YtbjpbeplpljieaaDoorTie.lean); close each card by the builder's one call (the guide's Derived/Test/ToyasCard.lean, 'card_holds'). Laid BY PROGRAM, IN A SANDBOX (cutbox-door.mjs). By AI agents, Wed Nov 11 2026. No macro, syntax, notation, axiom, sorry.
-/
import Derived.Test.YtbjpbeplpljieaaDoorRows
import GoSem.ClaimSeven
namespace Go.Proofs.YtbjpbeplpljieaaDoor
namespace Rows

/-- THE TIED CARD OF 'liverylaw14.KemAgrees'. -/
def kemAgreesCard : Claim7 := { stood := { row := kemAgreesRow, standIns := [], harness := (true, "5beaba3b4a64b766ac2184e3a20a5595d272ff2b09245321dad97368985ff819"), looks := true }, kinds := [], alts := [], laidByText := true, laidKinds := [.data], laidTests := true, laidLooks := .later }
def KemAgreesCardSaid : Prop := Claim7.holds Tryd.pinned (.plain (OpenSpec.ofChange kemAgreesSpec)) kemAgreesCard

/-- THE TIED CARD OF 'liverylaw14.KemRejects'. -/
def kemRejectsCard : Claim7 := { stood := { row := kemRejectsRow, standIns := [], harness := (true, "5beaba3b4a64b766ac2184e3a20a5595d272ff2b09245321dad97368985ff819"), looks := true }, kinds := [], alts := [], laidByText := true, laidKinds := [.data], laidTests := true, laidLooks := .later }
def KemRejectsCardSaid : Prop := Claim7.holds Tryd.pinned (.plain (OpenSpec.ofChange kemRejectsSpec)) kemRejectsCard

/-- THE TIED CARD OF 'liverylaw14.KemChecks'. -/
def kemChecksCard : Claim7 := { stood := { row := kemChecksRow, standIns := [], harness := (true, "5beaba3b4a64b766ac2184e3a20a5595d272ff2b09245321dad97368985ff819"), looks := true }, kinds := [], alts := [], laidByText := true, laidKinds := [.data], laidTests := true, laidLooks := .later }
def KemChecksCardSaid : Prop := Claim7.holds Tryd.pinned (.plain (OpenSpec.ofChange kemChecksSpec)) kemChecksCard

/-- THE SECOND FORM's CARD OF 'liverylaw14.KemAgrees'. -/
def kemAgreesUptoCard : Claim7 := { stood := { row := kemAgreesUptoRow, standIns := [], harness := (true, "5beaba3b4a64b766ac2184e3a20a5595d272ff2b09245321dad97368985ff819"), looks := true }, kinds := [], alts := [], laidByText := true, laidKinds := [.data], laidTests := true, laidLooks := .later }
def KemAgreesUptoCardSaid : Prop := Claim7.holds Tryd.pinned (.plain (OpenSpec.upto kemAgreesSpec)) kemAgreesUptoCard

/-- THE SECOND FORM's CARD OF 'liverylaw14.KemRejects'. -/
def kemRejectsUptoCard : Claim7 := { stood := { row := kemRejectsUptoRow, standIns := [], harness := (true, "5beaba3b4a64b766ac2184e3a20a5595d272ff2b09245321dad97368985ff819"), looks := true }, kinds := [], alts := [], laidByText := true, laidKinds := [.data], laidTests := true, laidLooks := .later }
def KemRejectsUptoCardSaid : Prop := Claim7.holds Tryd.pinned (.plain (OpenSpec.upto kemRejectsSpec)) kemRejectsUptoCard

/-- THE SECOND FORM's CARD OF 'liverylaw14.KemChecks'. -/
def kemChecksUptoCard : Claim7 := { stood := { row := kemChecksUptoRow, standIns := [], harness := (true, "5beaba3b4a64b766ac2184e3a20a5595d272ff2b09245321dad97368985ff819"), looks := true }, kinds := [], alts := [], laidByText := true, laidKinds := [.data], laidTests := true, laidLooks := .later }
def KemChecksUptoCardSaid : Prop := Claim7.holds Tryd.pinned (.plain (OpenSpec.upto kemChecksSpec)) kemChecksUptoCard
end Rows
end Go.Proofs.YtbjpbeplpljieaaDoor
