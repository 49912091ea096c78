/-
  DERIVED. GIVEN WITH THE SEED: THE CARDS: each row of YtijkhpiehaocpaaDoorRows.lean that lists a variable, with what it lists TIED to the program's text (the seventh form; the later family's looks); each row that meets fmt, with fmt's text TOLD by the authors' own Lean function (tested against real Go, not proved from fmt's source: count such statements apart). THE CARD IS WHAT COUNTS. Prove the row's statement (the work); the ties are given (YtijkhpiehaocpaaDoorTie.lean); close each card by the builder's one call (the guide's Derived/Test/ToyasCard.lean, 'card_holds'). Laid BY PROGRAM, IN A SANDBOX (cutbox-door.mjs). By AI agents, Wed Nov 11 2026. No macro, syntax, notation, axiom, sorry.
-/
import Derived.Test.YtijkhpiehaocpaaDoorRows
import GoSem.ClaimSeven
namespace Go.Proofs.YtijkhpiehaocpaaDoor
namespace Rows

/-- THE TIED CARD OF 'liverylaw01.OctetDecimals'. -/
def octetDecimalsCard : Claim7 := { stood := { row := octetDecimalsRow, standIns := [], harness := (true, "78f5dc5969930e70ad7affb2d7872312dc9f60e3122fbf1e5fff48786f31503d"), looks := true }, kinds := [], alts := [], laidByText := true, laidKinds := [.data, .data, .data, .sentinel, .sentinel], laidTests := true, laidLooks := .later }
def OctetDecimalsCardSaid : Prop := Claim7.holds Tryd.pinned (.plain (OpenSpec.ofChange octetDecimalsSpec)) octetDecimalsCard

/-- THE TIED CARD OF 'liverylaw01.OctetBack'. -/
def octetBackCard : Claim7 := { stood := { row := octetBackRow, standIns := [], harness := (true, "78f5dc5969930e70ad7affb2d7872312dc9f60e3122fbf1e5fff48786f31503d"), looks := true }, kinds := [], alts := [], laidByText := true, laidKinds := [.data, .data, .data, .sentinel, .sentinel], laidTests := true, laidLooks := .later }
def OctetBackCardSaid : Prop := Claim7.holds Tryd.pinned (.plain (OpenSpec.ofChange octetBackSpec)) octetBackCard

/-- THE SECOND FORM's CARD OF 'liverylaw01.OctetDecimals'. -/
def octetDecimalsUptoCard : Claim7 := { stood := { row := octetDecimalsUptoRow, standIns := [], harness := (true, "78f5dc5969930e70ad7affb2d7872312dc9f60e3122fbf1e5fff48786f31503d"), looks := true }, kinds := [], alts := [], laidByText := true, laidKinds := [.data, .data, .data, .sentinel, .sentinel], laidTests := true, laidLooks := .later }
def OctetDecimalsUptoCardSaid : Prop := Claim7.holds Tryd.pinned (.plain (OpenSpec.upto octetDecimalsSpec)) octetDecimalsUptoCard

/-- THE SECOND FORM's CARD OF 'liverylaw01.OctetBack'. -/
def octetBackUptoCard : Claim7 := { stood := { row := octetBackUptoRow, standIns := [], harness := (true, "78f5dc5969930e70ad7affb2d7872312dc9f60e3122fbf1e5fff48786f31503d"), looks := true }, kinds := [], alts := [], laidByText := true, laidKinds := [.data, .data, .data, .sentinel, .sentinel], laidTests := true, laidLooks := .later }
def OctetBackUptoCardSaid : Prop := Claim7.holds Tryd.pinned (.plain (OpenSpec.upto octetBackSpec)) octetBackUptoCard
end Rows
end Go.Proofs.YtijkhpiehaocpaaDoor
