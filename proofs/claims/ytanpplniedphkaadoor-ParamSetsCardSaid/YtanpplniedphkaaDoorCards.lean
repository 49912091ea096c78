/-
  DERIVED. GIVEN WITH THE SEED: THE CARDS: each row of YtanpplniedphkaaDoorRows.lean that lists a variable, with what it lists TIED to the program's text (the seventh form; the later family's looks); each row that meets fmt, with fmt's text TOLD by the authors' own Lean function (tested against real Go, not proved from fmt's source: count such statements apart). THE CARD IS WHAT COUNTS. Prove the row's statement (the work); the ties are given (YtanpplniedphkaaDoorTie.lean); close each card by the builder's one call (the guide's Derived/Test/ToyasCard.lean, 'card_holds'). Laid BY PROGRAM, IN A SANDBOX (cutbox-door.mjs). By AI agents, Wed Nov 11 2026. No macro, syntax, notation, axiom, sorry.
-/
import Derived.Test.YtanpplniedphkaaDoorRows
import GoSem.ClaimSeven
namespace Go.Proofs.YtanpplniedphkaaDoor
namespace Rows

/-- THE TIED CARD OF 'liverylaw05.DrbgDoes'. -/
def drbgDoesCard : Claim7 := { stood := { row := drbgDoesRow, standIns := [], harness := (true, "6078b5dea6e314188c6f5b6fe31d44b5867879ea70acc725421e3da0866a5bce"), looks := false }, kinds := [], alts := [], laidByText := true, laidKinds := [.data], laidTests := true, laidLooks := .later }
def DrbgDoesCardSaid : Prop := Claim7.holds Tryd.pinned (.plain (OpenSpec.ofChange drbgDoesSpec)) drbgDoesCard

/-- THE TIED CARD OF 'liverylaw06.ParamSets'. -/
def paramSetsCard : Claim7 := { stood := { row := paramSetsRow, standIns := [], harness := (true, "6078b5dea6e314188c6f5b6fe31d44b5867879ea70acc725421e3da0866a5bce"), looks := false }, kinds := [], alts := [], laidByText := true, laidKinds := [.data, .data, .data], laidTests := true, laidLooks := .later }
def ParamSetsCardSaid : Prop := Claim7.holds Tryd.pinned (.plain (OpenSpec.ofChange paramSetsSpec)) paramSetsCard

/-- THE TIED CARD OF 'liverylaw06.ParamNames'. -/
def paramNamesCard : Claim7 := { stood := { row := paramNamesRow, standIns := [], harness := (true, "6078b5dea6e314188c6f5b6fe31d44b5867879ea70acc725421e3da0866a5bce"), looks := false }, kinds := [], alts := [], laidByText := true, laidKinds := [.data, .data, .data], laidTests := true, laidLooks := .later }
def ParamNamesCardSaid : Prop := Claim7.holds Tryd.pinned (.plain (OpenSpec.ofChange paramNamesSpec)) paramNamesCard

/-- THE TIED CARD OF 'liverylaw06.ParamLens'. -/
def paramLensCard : Claim7 := { stood := { row := paramLensRow, standIns := [], harness := (true, "6078b5dea6e314188c6f5b6fe31d44b5867879ea70acc725421e3da0866a5bce"), looks := false }, kinds := [], alts := [], laidByText := true, laidKinds := [.data, .data, .data], laidTests := true, laidLooks := .later }
def ParamLensCardSaid : Prop := Claim7.holds Tryd.pinned (.plain (OpenSpec.ofChange paramLensSpec)) paramLensCard

/-- THE TIED CARD OF 'liverylaw06.ParamBack'. -/
def paramBackCard : Claim7 := { stood := { row := paramBackRow, standIns := [], harness := (true, "6078b5dea6e314188c6f5b6fe31d44b5867879ea70acc725421e3da0866a5bce"), looks := false }, kinds := [], alts := [], laidByText := true, laidKinds := [.data, .data, .data], laidTests := true, laidLooks := .later }
def ParamBackCardSaid : Prop := Claim7.holds Tryd.pinned (.plain (OpenSpec.ofChange paramBackSpec)) paramBackCard

/-- THE TIED CARD OF 'liverylaw06.ParamRoom'. -/
def paramRoomCard : Claim7 := { stood := { row := paramRoomRow, standIns := [], harness := (true, "6078b5dea6e314188c6f5b6fe31d44b5867879ea70acc725421e3da0866a5bce"), looks := false }, kinds := [], alts := [], laidByText := true, laidKinds := [.data, .data, .data], laidTests := true, laidLooks := .later }
def ParamRoomCardSaid : Prop := Claim7.holds Tryd.pinned (.plain (OpenSpec.ofChange paramRoomSpec)) paramRoomCard

/-- THE SECOND FORM's CARD OF 'liverylaw05.DrbgDoes'. -/
def drbgDoesUptoCard : Claim7 := { stood := { row := drbgDoesUptoRow, standIns := [], harness := (true, "6078b5dea6e314188c6f5b6fe31d44b5867879ea70acc725421e3da0866a5bce"), looks := false }, kinds := [], alts := [], laidByText := true, laidKinds := [.data], laidTests := true, laidLooks := .later }
def DrbgDoesUptoCardSaid : Prop := Claim7.holds Tryd.pinned (.plain (OpenSpec.upto drbgDoesSpec)) drbgDoesUptoCard

/-- THE SECOND FORM's CARD OF 'liverylaw06.ParamSets'. -/
def paramSetsUptoCard : Claim7 := { stood := { row := paramSetsUptoRow, standIns := [], harness := (true, "6078b5dea6e314188c6f5b6fe31d44b5867879ea70acc725421e3da0866a5bce"), looks := false }, kinds := [], alts := [], laidByText := true, laidKinds := [.data, .data, .data], laidTests := true, laidLooks := .later }
def ParamSetsUptoCardSaid : Prop := Claim7.holds Tryd.pinned (.plain (OpenSpec.upto paramSetsSpec)) paramSetsUptoCard

/-- THE SECOND FORM's CARD OF 'liverylaw06.ParamNames'. -/
def paramNamesUptoCard : Claim7 := { stood := { row := paramNamesUptoRow, standIns := [], harness := (true, "6078b5dea6e314188c6f5b6fe31d44b5867879ea70acc725421e3da0866a5bce"), looks := false }, kinds := [], alts := [], laidByText := true, laidKinds := [.data, .data, .data], laidTests := true, laidLooks := .later }
def ParamNamesUptoCardSaid : Prop := Claim7.holds Tryd.pinned (.plain (OpenSpec.upto paramNamesSpec)) paramNamesUptoCard

/-- THE SECOND FORM's CARD OF 'liverylaw06.ParamLens'. -/
def paramLensUptoCard : Claim7 := { stood := { row := paramLensUptoRow, standIns := [], harness := (true, "6078b5dea6e314188c6f5b6fe31d44b5867879ea70acc725421e3da0866a5bce"), looks := false }, kinds := [], alts := [], laidByText := true, laidKinds := [.data, .data, .data], laidTests := true, laidLooks := .later }
def ParamLensUptoCardSaid : Prop := Claim7.holds Tryd.pinned (.plain (OpenSpec.upto paramLensSpec)) paramLensUptoCard

/-- THE SECOND FORM's CARD OF 'liverylaw06.ParamBack'. -/
def paramBackUptoCard : Claim7 := { stood := { row := paramBackUptoRow, standIns := [], harness := (true, "6078b5dea6e314188c6f5b6fe31d44b5867879ea70acc725421e3da0866a5bce"), looks := false }, kinds := [], alts := [], laidByText := true, laidKinds := [.data, .data, .data], laidTests := true, laidLooks := .later }
def ParamBackUptoCardSaid : Prop := Claim7.holds Tryd.pinned (.plain (OpenSpec.upto paramBackSpec)) paramBackUptoCard

/-- THE SECOND FORM's CARD OF 'liverylaw06.ParamRoom'. -/
def paramRoomUptoCard : Claim7 := { stood := { row := paramRoomUptoRow, standIns := [], harness := (true, "6078b5dea6e314188c6f5b6fe31d44b5867879ea70acc725421e3da0866a5bce"), looks := false }, kinds := [], alts := [], laidByText := true, laidKinds := [.data, .data, .data], laidTests := true, laidLooks := .later }
def ParamRoomUptoCardSaid : Prop := Claim7.holds Tryd.pinned (.plain (OpenSpec.upto paramRoomSpec)) paramRoomUptoCard
end Rows
end Go.Proofs.YtanpplniedphkaaDoor
