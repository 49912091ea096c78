/-
  DERIVED. GIVEN WITH THE SEED: THE CARDS: each row of YtobbbljnkdfkeaaGreatDoorRows.lean that lists a variable, with what it lists TIED to the program's text (the seventh form; the later family's looks); each row that meets fmt, with fmt's text TOLD by the authors' own Lean function (tested against real Go, not proved from fmt's source: count such statements apart). THE CARD IS WHAT COUNTS. Prove the row's statement (the work); the ties are given (YtobbbljnkdfkeaaGreatDoorTie.lean); close each card by the builder's one call (the guide's Derived/Test/ToyasCard.lean, 'card_holds'). Laid BY PROGRAM, IN A SANDBOX (cutbox-door.mjs). By AI agents, Wed Nov 11 2026. No macro, syntax, notation, axiom, sorry.
-/
import Derived.Test.YtobbbljnkdfkeaaGreatDoorRows
import GoSem.ClaimSeven
namespace Go.Proofs.YtobbbljnkdfkeaaGreatDoor
namespace Rows

/-- THE TIED CARD OF 'liverylaw10.WotsPublic'. -/
def wotsPublicCard : Claim7 := { stood := { row := wotsPublicRow, standIns := [], harness := (true, "81f7a3c34132f82f9ad2185ed5b8b7417a42001bc083491d77869802702c0e07"), looks := false }, kinds := [], alts := [], laidByText := true, laidKinds := [.data, .data], laidTests := true, laidLooks := .later }
def WotsPublicCardSaid : Prop := Claim7.holds Tryz.pinned (.plain (OpenSpec.ofChange wotsPublicSpec)) wotsPublicCard

/-- THE TIED CARD OF 'liverylaw10.WotsSigns'. -/
def wotsSignsCard : Claim7 := { stood := { row := wotsSignsRow, standIns := [], harness := (true, "81f7a3c34132f82f9ad2185ed5b8b7417a42001bc083491d77869802702c0e07"), looks := false }, kinds := [], alts := [], laidByText := true, laidKinds := [.data, .data], laidTests := true, laidLooks := .later }
def WotsSignsCardSaid : Prop := Claim7.holds Tryz.pinned (.plain (OpenSpec.ofChange wotsSignsSpec)) wotsSignsCard

/-- THE TIED CARD OF 'liverylaw10.WotsVerifies'. -/
def wotsVerifiesCard : Claim7 := { stood := { row := wotsVerifiesRow, standIns := [], harness := (true, "81f7a3c34132f82f9ad2185ed5b8b7417a42001bc083491d77869802702c0e07"), looks := false }, kinds := [], alts := [], laidByText := true, laidKinds := [.data, .data], laidTests := true, laidLooks := .later }
def WotsVerifiesCardSaid : Prop := Claim7.holds Tryz.pinned (.plain (OpenSpec.ofChange wotsVerifiesSpec)) wotsVerifiesCard

/-- THE SECOND FORM's CARD OF 'liverylaw10.WotsPublic'. -/
def wotsPublicUptoCard : Claim7 := { stood := { row := wotsPublicUptoRow, standIns := [], harness := (true, "81f7a3c34132f82f9ad2185ed5b8b7417a42001bc083491d77869802702c0e07"), looks := false }, kinds := [], alts := [], laidByText := true, laidKinds := [.data, .data], laidTests := true, laidLooks := .later }
def WotsPublicUptoCardSaid : Prop := Claim7.holds Tryz.pinned (.plain (OpenSpec.upto wotsPublicSpec)) wotsPublicUptoCard

/-- THE SECOND FORM's CARD OF 'liverylaw10.WotsSigns'. -/
def wotsSignsUptoCard : Claim7 := { stood := { row := wotsSignsUptoRow, standIns := [], harness := (true, "81f7a3c34132f82f9ad2185ed5b8b7417a42001bc083491d77869802702c0e07"), looks := false }, kinds := [], alts := [], laidByText := true, laidKinds := [.data, .data], laidTests := true, laidLooks := .later }
def WotsSignsUptoCardSaid : Prop := Claim7.holds Tryz.pinned (.plain (OpenSpec.upto wotsSignsSpec)) wotsSignsUptoCard

/-- THE SECOND FORM's CARD OF 'liverylaw10.WotsVerifies'. -/
def wotsVerifiesUptoCard : Claim7 := { stood := { row := wotsVerifiesUptoRow, standIns := [], harness := (true, "81f7a3c34132f82f9ad2185ed5b8b7417a42001bc083491d77869802702c0e07"), looks := false }, kinds := [], alts := [], laidByText := true, laidKinds := [.data, .data], laidTests := true, laidLooks := .later }
def WotsVerifiesUptoCardSaid : Prop := Claim7.holds Tryz.pinned (.plain (OpenSpec.upto wotsVerifiesSpec)) wotsVerifiesUptoCard
end Rows
end Go.Proofs.YtobbbljnkdfkeaaGreatDoor
