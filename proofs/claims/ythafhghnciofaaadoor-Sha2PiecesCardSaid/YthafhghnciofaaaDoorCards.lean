/-
  DERIVED. GIVEN WITH THE SEED: THE CARDS: each row of YthafhghnciofaaaDoorRows.lean that lists a variable, with what it lists TIED to the program's text (the seventh form; the later family's looks); each row that meets fmt, with fmt's text TOLD by the authors' own Lean function (tested against real Go, not proved from fmt's source: count such statements apart). THE CARD IS WHAT COUNTS. Prove the row's statement (the work); the ties are given (YthafhghnciofaaaDoorTie.lean); close each card by the builder's one call (the guide's Derived/Test/ToyasCard.lean, 'card_holds'). Laid BY PROGRAM, IN A SANDBOX (cutbox-door.mjs). By AI agents, Wed Nov 11 2026. No macro, syntax, notation, axiom, sorry.
-/
import Derived.Test.YthafhghnciofaaaDoorRows
import GoSem.ClaimSeven
namespace Go.Proofs.YthafhghnciofaaaDoor
namespace Rows

/-- THE TIED CARD OF 'liverylaw02.Sha2Blocks'. -/
def sha2BlocksCard : Claim7 := { stood := { row := sha2BlocksRow, standIns := [], harness := (true, "9431c64ee37b3dca726625427e33561243a80acbce77dee2b02c1206354d39a4"), looks := false }, kinds := [], alts := [], laidByText := true, laidKinds := [.data], laidTests := true, laidLooks := .later }
def Sha2BlocksCardSaid : Prop := Claim7.holds Tryd.pinned (.plain (OpenSpec.ofChange sha2BlocksSpec)) sha2BlocksCard

/-- THE TIED CARD OF 'liverylaw02.Sha2Sums'. -/
def sha2SumsCard : Claim7 := { stood := { row := sha2SumsRow, standIns := [], harness := (true, "9431c64ee37b3dca726625427e33561243a80acbce77dee2b02c1206354d39a4"), looks := false }, kinds := [], alts := [], laidByText := true, laidKinds := [.data], laidTests := true, laidLooks := .later }
def Sha2SumsCardSaid : Prop := Claim7.holds Tryd.pinned (.plain (OpenSpec.ofChange sha2SumsSpec)) sha2SumsCard

/-- THE TIED CARD OF 'liverylaw02.Sha2Hashes'. -/
def sha2HashesCard : Claim7 := { stood := { row := sha2HashesRow, standIns := [], harness := (true, "9431c64ee37b3dca726625427e33561243a80acbce77dee2b02c1206354d39a4"), looks := false }, kinds := [], alts := [], laidByText := true, laidKinds := [.data], laidTests := true, laidLooks := .later }
def Sha2HashesCardSaid : Prop := Claim7.holds Tryd.pinned (.plain (OpenSpec.ofChange sha2HashesSpec)) sha2HashesCard

/-- THE TIED CARD OF 'liverylaw02.Sha2Keys'. -/
def sha2KeysCard : Claim7 := { stood := { row := sha2KeysRow, standIns := [], harness := (true, "9431c64ee37b3dca726625427e33561243a80acbce77dee2b02c1206354d39a4"), looks := false }, kinds := [], alts := [], laidByText := true, laidKinds := [.data], laidTests := true, laidLooks := .later }
def Sha2KeysCardSaid : Prop := Claim7.holds Tryd.pinned (.plain (OpenSpec.ofChange sha2KeysSpec)) sha2KeysCard

/-- THE TIED CARD OF 'liverylaw02.Sha2Pieces'. -/
def sha2PiecesCard : Claim7 := { stood := { row := sha2PiecesRow, standIns := [], harness := (true, "9431c64ee37b3dca726625427e33561243a80acbce77dee2b02c1206354d39a4"), looks := false }, kinds := [], alts := [], laidByText := true, laidKinds := [.data], laidTests := true, laidLooks := .later }
def Sha2PiecesCardSaid : Prop := Claim7.holds Tryd.pinned (.plain (OpenSpec.ofChange sha2PiecesSpec)) sha2PiecesCard

/-- THE TIED CARD OF 'liverylaw02.Sha2Begins'. -/
def sha2BeginsCard : Claim7 := { stood := { row := sha2BeginsRow, standIns := [], harness := (true, "9431c64ee37b3dca726625427e33561243a80acbce77dee2b02c1206354d39a4"), looks := false }, kinds := [], alts := [], laidByText := true, laidKinds := [.data], laidTests := true, laidLooks := .later }
def Sha2BeginsCardSaid : Prop := Claim7.holds Tryd.pinned (.plain (OpenSpec.ofChange sha2BeginsSpec)) sha2BeginsCard

/-- THE TIED CARD OF 'liverylaw02.Sha2Padded'. -/
def sha2PaddedCard : Claim7 := { stood := { row := sha2PaddedRow, standIns := [], harness := (true, "9431c64ee37b3dca726625427e33561243a80acbce77dee2b02c1206354d39a4"), looks := false }, kinds := [], alts := [], laidByText := true, laidKinds := [.data], laidTests := true, laidLooks := .later }
def Sha2PaddedCardSaid : Prop := Claim7.holds Tryd.pinned (.plain (OpenSpec.ofChange sha2PaddedSpec)) sha2PaddedCard

/-- THE TIED CARD OF 'liverylaw02.Sha2None'. -/
def sha2NoneCard : Claim7 := { stood := { row := sha2NoneRow, standIns := [], harness := (true, "9431c64ee37b3dca726625427e33561243a80acbce77dee2b02c1206354d39a4"), looks := false }, kinds := [], alts := [], laidByText := true, laidKinds := [.data], laidTests := true, laidLooks := .later }
def Sha2NoneCardSaid : Prop := Claim7.holds Tryd.pinned (.plain (OpenSpec.ofChange sha2NoneSpec)) sha2NoneCard

/-- THE SECOND FORM's CARD OF 'liverylaw02.Sha2Blocks'. -/
def sha2BlocksUptoCard : Claim7 := { stood := { row := sha2BlocksUptoRow, standIns := [], harness := (true, "9431c64ee37b3dca726625427e33561243a80acbce77dee2b02c1206354d39a4"), looks := false }, kinds := [], alts := [], laidByText := true, laidKinds := [.data], laidTests := true, laidLooks := .later }
def Sha2BlocksUptoCardSaid : Prop := Claim7.holds Tryd.pinned (.plain (OpenSpec.upto sha2BlocksSpec)) sha2BlocksUptoCard

/-- THE SECOND FORM's CARD OF 'liverylaw02.Sha2Sums'. -/
def sha2SumsUptoCard : Claim7 := { stood := { row := sha2SumsUptoRow, standIns := [], harness := (true, "9431c64ee37b3dca726625427e33561243a80acbce77dee2b02c1206354d39a4"), looks := false }, kinds := [], alts := [], laidByText := true, laidKinds := [.data], laidTests := true, laidLooks := .later }
def Sha2SumsUptoCardSaid : Prop := Claim7.holds Tryd.pinned (.plain (OpenSpec.upto sha2SumsSpec)) sha2SumsUptoCard

/-- THE SECOND FORM's CARD OF 'liverylaw02.Sha2Hashes'. -/
def sha2HashesUptoCard : Claim7 := { stood := { row := sha2HashesUptoRow, standIns := [], harness := (true, "9431c64ee37b3dca726625427e33561243a80acbce77dee2b02c1206354d39a4"), looks := false }, kinds := [], alts := [], laidByText := true, laidKinds := [.data], laidTests := true, laidLooks := .later }
def Sha2HashesUptoCardSaid : Prop := Claim7.holds Tryd.pinned (.plain (OpenSpec.upto sha2HashesSpec)) sha2HashesUptoCard

/-- THE SECOND FORM's CARD OF 'liverylaw02.Sha2Keys'. -/
def sha2KeysUptoCard : Claim7 := { stood := { row := sha2KeysUptoRow, standIns := [], harness := (true, "9431c64ee37b3dca726625427e33561243a80acbce77dee2b02c1206354d39a4"), looks := false }, kinds := [], alts := [], laidByText := true, laidKinds := [.data], laidTests := true, laidLooks := .later }
def Sha2KeysUptoCardSaid : Prop := Claim7.holds Tryd.pinned (.plain (OpenSpec.upto sha2KeysSpec)) sha2KeysUptoCard

/-- THE SECOND FORM's CARD OF 'liverylaw02.Sha2Pieces'. -/
def sha2PiecesUptoCard : Claim7 := { stood := { row := sha2PiecesUptoRow, standIns := [], harness := (true, "9431c64ee37b3dca726625427e33561243a80acbce77dee2b02c1206354d39a4"), looks := false }, kinds := [], alts := [], laidByText := true, laidKinds := [.data], laidTests := true, laidLooks := .later }
def Sha2PiecesUptoCardSaid : Prop := Claim7.holds Tryd.pinned (.plain (OpenSpec.upto sha2PiecesSpec)) sha2PiecesUptoCard

/-- THE SECOND FORM's CARD OF 'liverylaw02.Sha2Begins'. -/
def sha2BeginsUptoCard : Claim7 := { stood := { row := sha2BeginsUptoRow, standIns := [], harness := (true, "9431c64ee37b3dca726625427e33561243a80acbce77dee2b02c1206354d39a4"), looks := false }, kinds := [], alts := [], laidByText := true, laidKinds := [.data], laidTests := true, laidLooks := .later }
def Sha2BeginsUptoCardSaid : Prop := Claim7.holds Tryd.pinned (.plain (OpenSpec.upto sha2BeginsSpec)) sha2BeginsUptoCard

/-- THE SECOND FORM's CARD OF 'liverylaw02.Sha2Padded'. -/
def sha2PaddedUptoCard : Claim7 := { stood := { row := sha2PaddedUptoRow, standIns := [], harness := (true, "9431c64ee37b3dca726625427e33561243a80acbce77dee2b02c1206354d39a4"), looks := false }, kinds := [], alts := [], laidByText := true, laidKinds := [.data], laidTests := true, laidLooks := .later }
def Sha2PaddedUptoCardSaid : Prop := Claim7.holds Tryd.pinned (.plain (OpenSpec.upto sha2PaddedSpec)) sha2PaddedUptoCard

/-- THE SECOND FORM's CARD OF 'liverylaw02.Sha2None'. -/
def sha2NoneUptoCard : Claim7 := { stood := { row := sha2NoneUptoRow, standIns := [], harness := (true, "9431c64ee37b3dca726625427e33561243a80acbce77dee2b02c1206354d39a4"), looks := false }, kinds := [], alts := [], laidByText := true, laidKinds := [.data], laidTests := true, laidLooks := .later }
def Sha2NoneUptoCardSaid : Prop := Claim7.holds Tryd.pinned (.plain (OpenSpec.upto sha2NoneSpec)) sha2NoneUptoCard
end Rows
end Go.Proofs.YthafhghnciofaaaDoor
