/-
  DERIVED. GIVEN WITH THE SEED: THE CARDS: each row of YtaalmjcpaiihhaaDoorRows.lean that lists a variable, with what it lists TIED to the program's text (the seventh form; the later family's looks); each row that meets fmt, with fmt's text TOLD by the authors' own Lean function (tested against real Go, not proved from fmt's source: count such statements apart). THE CARD IS WHAT COUNTS. Prove the row's statement (the work); the ties are given (YtaalmjcpaiihhaaDoorTie.lean); close each card by the builder's one call (the guide's Derived/Test/ToyasCard.lean, 'card_holds'). Laid BY PROGRAM, IN A SANDBOX (cutbox-door.mjs). By AI agents, Wed Nov 11 2026. No macro, syntax, notation, axiom, sorry.
-/
import Derived.Test.YtaalmjcpaiihhaaDoorRows
import GoSem.ClaimSeven
namespace Go.Proofs.YtaalmjcpaiihhaaDoor
namespace Rows

/-- THE TIED CARD OF 'liverylaw04.SealKeys'. -/
def sealKeysCard : Claim7 := { stood := { row := sealKeysRow, standIns := [], harness := (true, "1f9e60765f9a885c32c46fe9a3da14dfe6b11949f97fa861d19f7d56e8a72f38"), looks := false }, kinds := [], alts := [], laidByText := true, laidKinds := [.data], laidTests := true, laidLooks := .later }
def SealKeysCardSaid : Prop := Claim7.holds Tryd.pinned (.plain (OpenSpec.ofChange sealKeysSpec)) sealKeysCard

/-- THE TIED CARD OF 'liverylaw04.SealSeals'. -/
def sealSealsCard : Claim7 := { stood := { row := sealSealsRow, standIns := [], harness := (true, "1f9e60765f9a885c32c46fe9a3da14dfe6b11949f97fa861d19f7d56e8a72f38"), looks := false }, kinds := [], alts := [], laidByText := true, laidKinds := [.data], laidTests := true, laidLooks := .later }
def SealSealsCardSaid : Prop := Claim7.holds Tryd.pinned (.plain (OpenSpec.ofChange sealSealsSpec)) sealSealsCard

/-- THE TIED CARD OF 'liverylaw04.SealOpens'. -/
def sealOpensCard : Claim7 := { stood := { row := sealOpensRow, standIns := [], harness := (true, "1f9e60765f9a885c32c46fe9a3da14dfe6b11949f97fa861d19f7d56e8a72f38"), looks := false }, kinds := [], alts := [], laidByText := true, laidKinds := [.data], laidTests := true, laidLooks := .later }
def SealOpensCardSaid : Prop := Claim7.holds Tryd.pinned (.plain (OpenSpec.ofChange sealOpensSpec)) sealOpensCard

/-- THE TIED CARD OF 'liverylaw04.SealBack'. -/
def sealBackCard : Claim7 := { stood := { row := sealBackRow, standIns := [], harness := (true, "1f9e60765f9a885c32c46fe9a3da14dfe6b11949f97fa861d19f7d56e8a72f38"), looks := false }, kinds := [], alts := [], laidByText := true, laidKinds := [.data], laidTests := true, laidLooks := .later }
def SealBackCardSaid : Prop := Claim7.holds Tryd.pinned (.plain (OpenSpec.ofChange sealBackSpec)) sealBackCard

/-- THE TIED CARD OF 'liverylaw04.SealTags'. -/
def sealTagsCard : Claim7 := { stood := { row := sealTagsRow, standIns := [], harness := (true, "1f9e60765f9a885c32c46fe9a3da14dfe6b11949f97fa861d19f7d56e8a72f38"), looks := false }, kinds := [], alts := [], laidByText := true, laidKinds := [.data], laidTests := true, laidLooks := .later }
def SealTagsCardSaid : Prop := Claim7.holds Tryd.pinned (.plain (OpenSpec.ofChange sealTagsSpec)) sealTagsCard

/-- THE TIED CARD OF 'liverylaw04.SealBits'. -/
def sealBitsCard : Claim7 := { stood := { row := sealBitsRow, standIns := [], harness := (true, "1f9e60765f9a885c32c46fe9a3da14dfe6b11949f97fa861d19f7d56e8a72f38"), looks := false }, kinds := [], alts := [], laidByText := true, laidKinds := [.data], laidTests := true, laidLooks := .later }
def SealBitsCardSaid : Prop := Claim7.holds Tryd.pinned (.plain (OpenSpec.ofChange sealBitsSpec)) sealBitsCard

/-- THE TIED CARD OF 'liverylaw05.DrbgDoes'. -/
def drbgDoesCard : Claim7 := { stood := { row := drbgDoesRow, standIns := [], harness := (true, "1f9e60765f9a885c32c46fe9a3da14dfe6b11949f97fa861d19f7d56e8a72f38"), looks := false }, kinds := [], alts := [], laidByText := true, laidKinds := [.data], laidTests := true, laidLooks := .later }
def DrbgDoesCardSaid : Prop := Claim7.holds Tryd.pinned (.plain (OpenSpec.ofChange drbgDoesSpec)) drbgDoesCard

/-- THE TIED CARD OF 'liverylaw05.DrbgFull'. -/
def drbgFullCard : Claim7 := { stood := { row := drbgFullRow, standIns := [], harness := (true, "1f9e60765f9a885c32c46fe9a3da14dfe6b11949f97fa861d19f7d56e8a72f38"), looks := false }, kinds := [], alts := [], laidByText := true, laidKinds := [.data], laidTests := true, laidLooks := .later }
def DrbgFullCardSaid : Prop := Claim7.holds Tryd.pinned (.plain (OpenSpec.ofChange drbgFullSpec)) drbgFullCard

/-- THE TIED CARD OF 'liverylaw05.DrbgSame'. -/
def drbgSameCard : Claim7 := { stood := { row := drbgSameRow, standIns := [], harness := (true, "1f9e60765f9a885c32c46fe9a3da14dfe6b11949f97fa861d19f7d56e8a72f38"), looks := false }, kinds := [], alts := [], laidByText := true, laidKinds := [.data], laidTests := true, laidLooks := .later }
def DrbgSameCardSaid : Prop := Claim7.holds Tryd.pinned (.plain (OpenSpec.ofChange drbgSameSpec)) drbgSameCard

/-- THE TIED CARD OF 'liverylaw05.DrbgParts'. -/
def drbgPartsCard : Claim7 := { stood := { row := drbgPartsRow, standIns := [], harness := (true, "1f9e60765f9a885c32c46fe9a3da14dfe6b11949f97fa861d19f7d56e8a72f38"), looks := false }, kinds := [], alts := [], laidByText := true, laidKinds := [.data], laidTests := true, laidLooks := .later }
def DrbgPartsCardSaid : Prop := Claim7.holds Tryd.pinned (.plain (OpenSpec.ofChange drbgPartsSpec)) drbgPartsCard

/-- THE TIED CARD OF 'liverylaw05.DrbgNone'. -/
def drbgNoneCard : Claim7 := { stood := { row := drbgNoneRow, standIns := [], harness := (true, "1f9e60765f9a885c32c46fe9a3da14dfe6b11949f97fa861d19f7d56e8a72f38"), looks := false }, kinds := [], alts := [], laidByText := true, laidKinds := [.data], laidTests := true, laidLooks := .later }
def DrbgNoneCardSaid : Prop := Claim7.holds Tryd.pinned (.plain (OpenSpec.ofChange drbgNoneSpec)) drbgNoneCard

/-- THE SECOND FORM's CARD OF 'liverylaw04.SealKeys'. -/
def sealKeysUptoCard : Claim7 := { stood := { row := sealKeysUptoRow, standIns := [], harness := (true, "1f9e60765f9a885c32c46fe9a3da14dfe6b11949f97fa861d19f7d56e8a72f38"), looks := false }, kinds := [], alts := [], laidByText := true, laidKinds := [.data], laidTests := true, laidLooks := .later }
def SealKeysUptoCardSaid : Prop := Claim7.holds Tryd.pinned (.plain (OpenSpec.upto sealKeysSpec)) sealKeysUptoCard

/-- THE SECOND FORM's CARD OF 'liverylaw04.SealSeals'. -/
def sealSealsUptoCard : Claim7 := { stood := { row := sealSealsUptoRow, standIns := [], harness := (true, "1f9e60765f9a885c32c46fe9a3da14dfe6b11949f97fa861d19f7d56e8a72f38"), looks := false }, kinds := [], alts := [], laidByText := true, laidKinds := [.data], laidTests := true, laidLooks := .later }
def SealSealsUptoCardSaid : Prop := Claim7.holds Tryd.pinned (.plain (OpenSpec.upto sealSealsSpec)) sealSealsUptoCard

/-- THE SECOND FORM's CARD OF 'liverylaw04.SealOpens'. -/
def sealOpensUptoCard : Claim7 := { stood := { row := sealOpensUptoRow, standIns := [], harness := (true, "1f9e60765f9a885c32c46fe9a3da14dfe6b11949f97fa861d19f7d56e8a72f38"), looks := false }, kinds := [], alts := [], laidByText := true, laidKinds := [.data], laidTests := true, laidLooks := .later }
def SealOpensUptoCardSaid : Prop := Claim7.holds Tryd.pinned (.plain (OpenSpec.upto sealOpensSpec)) sealOpensUptoCard

/-- THE SECOND FORM's CARD OF 'liverylaw04.SealBack'. -/
def sealBackUptoCard : Claim7 := { stood := { row := sealBackUptoRow, standIns := [], harness := (true, "1f9e60765f9a885c32c46fe9a3da14dfe6b11949f97fa861d19f7d56e8a72f38"), looks := false }, kinds := [], alts := [], laidByText := true, laidKinds := [.data], laidTests := true, laidLooks := .later }
def SealBackUptoCardSaid : Prop := Claim7.holds Tryd.pinned (.plain (OpenSpec.upto sealBackSpec)) sealBackUptoCard

/-- THE SECOND FORM's CARD OF 'liverylaw04.SealTags'. -/
def sealTagsUptoCard : Claim7 := { stood := { row := sealTagsUptoRow, standIns := [], harness := (true, "1f9e60765f9a885c32c46fe9a3da14dfe6b11949f97fa861d19f7d56e8a72f38"), looks := false }, kinds := [], alts := [], laidByText := true, laidKinds := [.data], laidTests := true, laidLooks := .later }
def SealTagsUptoCardSaid : Prop := Claim7.holds Tryd.pinned (.plain (OpenSpec.upto sealTagsSpec)) sealTagsUptoCard

/-- THE SECOND FORM's CARD OF 'liverylaw04.SealBits'. -/
def sealBitsUptoCard : Claim7 := { stood := { row := sealBitsUptoRow, standIns := [], harness := (true, "1f9e60765f9a885c32c46fe9a3da14dfe6b11949f97fa861d19f7d56e8a72f38"), looks := false }, kinds := [], alts := [], laidByText := true, laidKinds := [.data], laidTests := true, laidLooks := .later }
def SealBitsUptoCardSaid : Prop := Claim7.holds Tryd.pinned (.plain (OpenSpec.upto sealBitsSpec)) sealBitsUptoCard

/-- THE SECOND FORM's CARD OF 'liverylaw05.DrbgDoes'. -/
def drbgDoesUptoCard : Claim7 := { stood := { row := drbgDoesUptoRow, standIns := [], harness := (true, "1f9e60765f9a885c32c46fe9a3da14dfe6b11949f97fa861d19f7d56e8a72f38"), looks := false }, kinds := [], alts := [], laidByText := true, laidKinds := [.data], laidTests := true, laidLooks := .later }
def DrbgDoesUptoCardSaid : Prop := Claim7.holds Tryd.pinned (.plain (OpenSpec.upto drbgDoesSpec)) drbgDoesUptoCard

/-- THE SECOND FORM's CARD OF 'liverylaw05.DrbgFull'. -/
def drbgFullUptoCard : Claim7 := { stood := { row := drbgFullUptoRow, standIns := [], harness := (true, "1f9e60765f9a885c32c46fe9a3da14dfe6b11949f97fa861d19f7d56e8a72f38"), looks := false }, kinds := [], alts := [], laidByText := true, laidKinds := [.data], laidTests := true, laidLooks := .later }
def DrbgFullUptoCardSaid : Prop := Claim7.holds Tryd.pinned (.plain (OpenSpec.upto drbgFullSpec)) drbgFullUptoCard

/-- THE SECOND FORM's CARD OF 'liverylaw05.DrbgSame'. -/
def drbgSameUptoCard : Claim7 := { stood := { row := drbgSameUptoRow, standIns := [], harness := (true, "1f9e60765f9a885c32c46fe9a3da14dfe6b11949f97fa861d19f7d56e8a72f38"), looks := false }, kinds := [], alts := [], laidByText := true, laidKinds := [.data], laidTests := true, laidLooks := .later }
def DrbgSameUptoCardSaid : Prop := Claim7.holds Tryd.pinned (.plain (OpenSpec.upto drbgSameSpec)) drbgSameUptoCard

/-- THE SECOND FORM's CARD OF 'liverylaw05.DrbgParts'. -/
def drbgPartsUptoCard : Claim7 := { stood := { row := drbgPartsUptoRow, standIns := [], harness := (true, "1f9e60765f9a885c32c46fe9a3da14dfe6b11949f97fa861d19f7d56e8a72f38"), looks := false }, kinds := [], alts := [], laidByText := true, laidKinds := [.data], laidTests := true, laidLooks := .later }
def DrbgPartsUptoCardSaid : Prop := Claim7.holds Tryd.pinned (.plain (OpenSpec.upto drbgPartsSpec)) drbgPartsUptoCard

/-- THE SECOND FORM's CARD OF 'liverylaw05.DrbgNone'. -/
def drbgNoneUptoCard : Claim7 := { stood := { row := drbgNoneUptoRow, standIns := [], harness := (true, "1f9e60765f9a885c32c46fe9a3da14dfe6b11949f97fa861d19f7d56e8a72f38"), looks := false }, kinds := [], alts := [], laidByText := true, laidKinds := [.data], laidTests := true, laidLooks := .later }
def DrbgNoneUptoCardSaid : Prop := Claim7.holds Tryd.pinned (.plain (OpenSpec.upto drbgNoneSpec)) drbgNoneUptoCard
end Rows
end Go.Proofs.YtaalmjcpaiihhaaDoor
