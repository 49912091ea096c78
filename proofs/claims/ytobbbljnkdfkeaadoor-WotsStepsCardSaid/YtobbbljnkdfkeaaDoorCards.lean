/-
  DERIVED. GIVEN WITH THE SEED: THE CARDS: each row of YtobbbljnkdfkeaaDoorRows.lean that lists a variable, with what it lists TIED to the program's text (the seventh form; the later family's looks); each row that meets fmt, with fmt's text TOLD by the authors' own Lean function (tested against real Go, not proved from fmt's source: count such statements apart). THE CARD IS WHAT COUNTS. Prove the row's statement (the work); the ties are given (YtobbbljnkdfkeaaDoorTie.lean); close each card by the builder's one call (the guide's Derived/Test/ToyasCard.lean, 'card_holds'). Laid BY PROGRAM, IN A SANDBOX (cutbox-door.mjs). By AI agents, Wed Nov 11 2026. No macro, syntax, notation, axiom, sorry.
-/
import Derived.Test.YtobbbljnkdfkeaaDoorRows
import GoSem.ClaimSeven
namespace Go.Proofs.YtobbbljnkdfkeaaDoor
namespace Rows

/-- THE TIED CARD OF 'liverylaw10.WotsKeyed'. -/
def wotsKeyedCard : Claim7 := { stood := { row := wotsKeyedRow, standIns := [], harness := (true, "17e5485f81c2d656e2de3c40f7b0364b3257aa43db484d91e5fb1e6e638fb33d"), looks := false }, kinds := [], alts := [], laidByText := true, laidKinds := [.data, .data], laidTests := true, laidLooks := .later }
def WotsKeyedCardSaid : Prop := Claim7.holds Tryd.pinned (.plain (OpenSpec.ofChange wotsKeyedSpec)) wotsKeyedCard

/-- THE TIED CARD OF 'liverylaw10.WotsDigits'. -/
def wotsDigitsCard : Claim7 := { stood := { row := wotsDigitsRow, standIns := [], harness := (true, "17e5485f81c2d656e2de3c40f7b0364b3257aa43db484d91e5fb1e6e638fb33d"), looks := false }, kinds := [], alts := [], laidByText := true, laidKinds := [.data, .data], laidTests := true, laidLooks := .later }
def WotsDigitsCardSaid : Prop := Claim7.holds Tryd.pinned (.plain (OpenSpec.ofChange wotsDigitsSpec)) wotsDigitsCard

/-- THE TIED CARD OF 'liverylaw10.WotsOn'. -/
def wotsOnCard : Claim7 := { stood := { row := wotsOnRow, standIns := [], harness := (true, "17e5485f81c2d656e2de3c40f7b0364b3257aa43db484d91e5fb1e6e638fb33d"), looks := false }, kinds := [], alts := [], laidByText := true, laidKinds := [.data, .data], laidTests := true, laidLooks := .later }
def WotsOnCardSaid : Prop := Claim7.holds Tryd.pinned (.plain (OpenSpec.ofChange wotsOnSpec)) wotsOnCard

/-- THE TIED CARD OF 'liverylaw10.WotsSteps'. -/
def wotsStepsCard : Claim7 := { stood := { row := wotsStepsRow, standIns := [], harness := (true, "17e5485f81c2d656e2de3c40f7b0364b3257aa43db484d91e5fb1e6e638fb33d"), looks := false }, kinds := [], alts := [], laidByText := true, laidKinds := [.data, .data], laidTests := true, laidLooks := .later }
def WotsStepsCardSaid : Prop := Claim7.holds Tryd.pinned (.plain (OpenSpec.ofChange wotsStepsSpec)) wotsStepsCard

/-- THE TIED CARD OF 'liverylaw10.WotsBelow'. -/
def wotsBelowCard : Claim7 := { stood := { row := wotsBelowRow, standIns := [], harness := (true, "17e5485f81c2d656e2de3c40f7b0364b3257aa43db484d91e5fb1e6e638fb33d"), looks := false }, kinds := [], alts := [], laidByText := true, laidKinds := [.data, .data], laidTests := true, laidLooks := .later }
def WotsBelowCardSaid : Prop := Claim7.holds Tryd.pinned (.plain (OpenSpec.ofChange wotsBelowSpec)) wotsBelowCard

/-- THE TIED CARD OF 'liverylaw10.WotsCounts'. -/
def wotsCountsCard : Claim7 := { stood := { row := wotsCountsRow, standIns := [], harness := (true, "17e5485f81c2d656e2de3c40f7b0364b3257aa43db484d91e5fb1e6e638fb33d"), looks := false }, kinds := [], alts := [], laidByText := true, laidKinds := [.data, .data], laidTests := true, laidLooks := .later }
def WotsCountsCardSaid : Prop := Claim7.holds Tryd.pinned (.plain (OpenSpec.ofChange wotsCountsSpec)) wotsCountsCard

/-- THE SECOND FORM's CARD OF 'liverylaw10.WotsKeyed'. -/
def wotsKeyedUptoCard : Claim7 := { stood := { row := wotsKeyedUptoRow, standIns := [], harness := (true, "17e5485f81c2d656e2de3c40f7b0364b3257aa43db484d91e5fb1e6e638fb33d"), looks := false }, kinds := [], alts := [], laidByText := true, laidKinds := [.data, .data], laidTests := true, laidLooks := .later }
def WotsKeyedUptoCardSaid : Prop := Claim7.holds Tryd.pinned (.plain (OpenSpec.upto wotsKeyedSpec)) wotsKeyedUptoCard

/-- THE SECOND FORM's CARD OF 'liverylaw10.WotsDigits'. -/
def wotsDigitsUptoCard : Claim7 := { stood := { row := wotsDigitsUptoRow, standIns := [], harness := (true, "17e5485f81c2d656e2de3c40f7b0364b3257aa43db484d91e5fb1e6e638fb33d"), looks := false }, kinds := [], alts := [], laidByText := true, laidKinds := [.data, .data], laidTests := true, laidLooks := .later }
def WotsDigitsUptoCardSaid : Prop := Claim7.holds Tryd.pinned (.plain (OpenSpec.upto wotsDigitsSpec)) wotsDigitsUptoCard

/-- THE SECOND FORM's CARD OF 'liverylaw10.WotsOn'. -/
def wotsOnUptoCard : Claim7 := { stood := { row := wotsOnUptoRow, standIns := [], harness := (true, "17e5485f81c2d656e2de3c40f7b0364b3257aa43db484d91e5fb1e6e638fb33d"), looks := false }, kinds := [], alts := [], laidByText := true, laidKinds := [.data, .data], laidTests := true, laidLooks := .later }
def WotsOnUptoCardSaid : Prop := Claim7.holds Tryd.pinned (.plain (OpenSpec.upto wotsOnSpec)) wotsOnUptoCard

/-- THE SECOND FORM's CARD OF 'liverylaw10.WotsSteps'. -/
def wotsStepsUptoCard : Claim7 := { stood := { row := wotsStepsUptoRow, standIns := [], harness := (true, "17e5485f81c2d656e2de3c40f7b0364b3257aa43db484d91e5fb1e6e638fb33d"), looks := false }, kinds := [], alts := [], laidByText := true, laidKinds := [.data, .data], laidTests := true, laidLooks := .later }
def WotsStepsUptoCardSaid : Prop := Claim7.holds Tryd.pinned (.plain (OpenSpec.upto wotsStepsSpec)) wotsStepsUptoCard

/-- THE SECOND FORM's CARD OF 'liverylaw10.WotsBelow'. -/
def wotsBelowUptoCard : Claim7 := { stood := { row := wotsBelowUptoRow, standIns := [], harness := (true, "17e5485f81c2d656e2de3c40f7b0364b3257aa43db484d91e5fb1e6e638fb33d"), looks := false }, kinds := [], alts := [], laidByText := true, laidKinds := [.data, .data], laidTests := true, laidLooks := .later }
def WotsBelowUptoCardSaid : Prop := Claim7.holds Tryd.pinned (.plain (OpenSpec.upto wotsBelowSpec)) wotsBelowUptoCard

/-- THE SECOND FORM's CARD OF 'liverylaw10.WotsCounts'. -/
def wotsCountsUptoCard : Claim7 := { stood := { row := wotsCountsUptoRow, standIns := [], harness := (true, "17e5485f81c2d656e2de3c40f7b0364b3257aa43db484d91e5fb1e6e638fb33d"), looks := false }, kinds := [], alts := [], laidByText := true, laidKinds := [.data, .data], laidTests := true, laidLooks := .later }
def WotsCountsUptoCardSaid : Prop := Claim7.holds Tryd.pinned (.plain (OpenSpec.upto wotsCountsSpec)) wotsCountsUptoCard
end Rows
end Go.Proofs.YtobbbljnkdfkeaaDoor
