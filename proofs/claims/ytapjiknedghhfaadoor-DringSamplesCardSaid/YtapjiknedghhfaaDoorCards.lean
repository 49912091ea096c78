/-
  DERIVED. GIVEN WITH THE SEED: THE CARDS: each row of YtapjiknedghhfaaDoorRows.lean that lists a variable, with what it lists TIED to the program's text (the seventh form; the later family's looks); each row that meets fmt, with fmt's text TOLD by the authors' own Lean function (tested against real Go, not proved from fmt's source: count such statements apart). THE CARD IS WHAT COUNTS. Prove the row's statement (the work); the ties are given (YtapjiknedghhfaaDoorTie.lean); close each card by the builder's one call (the guide's Derived/Test/ToyasCard.lean, 'card_holds'). Laid BY PROGRAM, IN A SANDBOX (cutbox-door.mjs). By AI agents, Wed Nov 11 2026. No macro, syntax, notation, axiom, sorry.
-/
import Derived.Test.YtapjiknedghhfaaDoorRows
import GoSem.ClaimSeven
namespace Go.Proofs.YtapjiknedghhfaaDoor
namespace Rows

/-- THE TIED CARD OF 'liverylaw15.DringSamples'. -/
def dringSamplesCard : Claim7 := { stood := { row := dringSamplesRow, standIns := [], harness := (true, "89fdc05535e338fed47049973236e351fe7e0d4d5f2496ac40e7df79ed04c173"), looks := false }, kinds := [], alts := [], laidByText := true, laidKinds := [.data], laidTests := true, laidLooks := .later }
def DringSamplesCardSaid : Prop := Claim7.holds Tryd.pinned (.plain (OpenSpec.ofChange dringSamplesSpec)) dringSamplesCard

/-- THE TIED CARD OF 'liverylaw15.DringSmall'. -/
def dringSmallCard : Claim7 := { stood := { row := dringSmallRow, standIns := [], harness := (true, "89fdc05535e338fed47049973236e351fe7e0d4d5f2496ac40e7df79ed04c173"), looks := false }, kinds := [], alts := [], laidByText := true, laidKinds := [.data], laidTests := true, laidLooks := .later }
def DringSmallCardSaid : Prop := Claim7.holds Tryd.pinned (.plain (OpenSpec.ofChange dringSmallSpec)) dringSmallCard

/-- THE SECOND FORM's CARD OF 'liverylaw15.DringSamples'. -/
def dringSamplesUptoCard : Claim7 := { stood := { row := dringSamplesUptoRow, standIns := [], harness := (true, "89fdc05535e338fed47049973236e351fe7e0d4d5f2496ac40e7df79ed04c173"), looks := false }, kinds := [], alts := [], laidByText := true, laidKinds := [.data], laidTests := true, laidLooks := .later }
def DringSamplesUptoCardSaid : Prop := Claim7.holds Tryd.pinned (.plain (OpenSpec.upto dringSamplesSpec)) dringSamplesUptoCard

/-- THE SECOND FORM's CARD OF 'liverylaw15.DringSmall'. -/
def dringSmallUptoCard : Claim7 := { stood := { row := dringSmallUptoRow, standIns := [], harness := (true, "89fdc05535e338fed47049973236e351fe7e0d4d5f2496ac40e7df79ed04c173"), looks := false }, kinds := [], alts := [], laidByText := true, laidKinds := [.data], laidTests := true, laidLooks := .later }
def DringSmallUptoCardSaid : Prop := Claim7.holds Tryd.pinned (.plain (OpenSpec.upto dringSmallSpec)) dringSmallUptoCard
end Rows
end Go.Proofs.YtapjiknedghhfaaDoor
