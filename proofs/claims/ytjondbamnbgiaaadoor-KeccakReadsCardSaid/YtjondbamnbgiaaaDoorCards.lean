/-
  DERIVED. GIVEN WITH THE SEED: THE CARDS: each row of YtjondbamnbgiaaaDoorRows.lean that lists a variable, with what it lists TIED to the program's text (the seventh form; the later family's looks); each row that meets fmt, with fmt's text TOLD by the authors' own Lean function (tested against real Go, not proved from fmt's source: count such statements apart). THE CARD IS WHAT COUNTS. Prove the row's statement (the work); the ties are given (YtjondbamnbgiaaaDoorTie.lean); close each card by the builder's one call (the guide's Derived/Test/ToyasCard.lean, 'card_holds'). Laid BY PROGRAM, IN A SANDBOX (cutbox-door.mjs). By AI agents, Wed Nov 11 2026. No macro, syntax, notation, axiom, sorry.
-/
import Derived.Test.YtjondbamnbgiaaaDoorRows
import GoSem.ClaimSeven
namespace Go.Proofs.YtjondbamnbgiaaaDoor
namespace Rows

/-- THE TIED CARD OF 'liverylaw03.KeccakPermutes'. -/
def keccakPermutesCard : Claim7 := { stood := { row := keccakPermutesRow, standIns := [], harness := (true, "1d2badfd97029887db3b538695fda68626c5907cf42018e6fbec4e73c1cd9265"), looks := false }, kinds := [], alts := [], laidByText := true, laidKinds := [.data], laidTests := true, laidLooks := .later }
def KeccakPermutesCardSaid : Prop := Claim7.holds Tryd.pinned (.plain (OpenSpec.ofChange keccakPermutesSpec)) keccakPermutesCard

/-- THE TIED CARD OF 'liverylaw03.KeccakSums'. -/
def keccakSumsCard : Claim7 := { stood := { row := keccakSumsRow, standIns := [], harness := (true, "1d2badfd97029887db3b538695fda68626c5907cf42018e6fbec4e73c1cd9265"), looks := false }, kinds := [], alts := [], laidByText := true, laidKinds := [.data], laidTests := true, laidLooks := .later }
def KeccakSumsCardSaid : Prop := Claim7.holds Tryd.pinned (.plain (OpenSpec.ofChange keccakSumsSpec)) keccakSumsCard

/-- THE TIED CARD OF 'liverylaw03.KeccakShakes'. -/
def keccakShakesCard : Claim7 := { stood := { row := keccakShakesRow, standIns := [], harness := (true, "1d2badfd97029887db3b538695fda68626c5907cf42018e6fbec4e73c1cd9265"), looks := false }, kinds := [], alts := [], laidByText := true, laidKinds := [.data], laidTests := true, laidLooks := .later }
def KeccakShakesCardSaid : Prop := Claim7.holds Tryd.pinned (.plain (OpenSpec.ofChange keccakShakesSpec)) keccakShakesCard

/-- THE TIED CARD OF 'liverylaw03.KeccakReads'. -/
def keccakReadsCard : Claim7 := { stood := { row := keccakReadsRow, standIns := [], harness := (true, "1d2badfd97029887db3b538695fda68626c5907cf42018e6fbec4e73c1cd9265"), looks := false }, kinds := [], alts := [], laidByText := true, laidKinds := [.data], laidTests := true, laidLooks := .later }
def KeccakReadsCardSaid : Prop := Claim7.holds Tryd.pinned (.plain (OpenSpec.ofChange keccakReadsSpec)) keccakReadsCard

/-- THE TIED CARD OF 'liverylaw03.KeccakPieces'. -/
def keccakPiecesCard : Claim7 := { stood := { row := keccakPiecesRow, standIns := [], harness := (true, "1d2badfd97029887db3b538695fda68626c5907cf42018e6fbec4e73c1cd9265"), looks := false }, kinds := [], alts := [], laidByText := true, laidKinds := [.data], laidTests := true, laidLooks := .later }
def KeccakPiecesCardSaid : Prop := Claim7.holds Tryd.pinned (.plain (OpenSpec.ofChange keccakPiecesSpec)) keccakPiecesCard

/-- THE TIED CARD OF 'liverylaw03.KeccakLonger'. -/
def keccakLongerCard : Claim7 := { stood := { row := keccakLongerRow, standIns := [], harness := (true, "1d2badfd97029887db3b538695fda68626c5907cf42018e6fbec4e73c1cd9265"), looks := false }, kinds := [], alts := [], laidByText := true, laidKinds := [.data], laidTests := true, laidLooks := .later }
def KeccakLongerCardSaid : Prop := Claim7.holds Tryd.pinned (.plain (OpenSpec.ofChange keccakLongerSpec)) keccakLongerCard

/-- THE TIED CARD OF 'liverylaw03.KeccakSponge'. -/
def keccakSpongeCard : Claim7 := { stood := { row := keccakSpongeRow, standIns := [], harness := (true, "1d2badfd97029887db3b538695fda68626c5907cf42018e6fbec4e73c1cd9265"), looks := false }, kinds := [], alts := [], laidByText := true, laidKinds := [.data], laidTests := true, laidLooks := .later }
def KeccakSpongeCardSaid : Prop := Claim7.holds Tryd.pinned (.plain (OpenSpec.ofChange keccakSpongeSpec)) keccakSpongeCard

/-- THE TIED CARD OF 'liverylaw03.KeccakNone'. -/
def keccakNoneCard : Claim7 := { stood := { row := keccakNoneRow, standIns := [], harness := (true, "1d2badfd97029887db3b538695fda68626c5907cf42018e6fbec4e73c1cd9265"), looks := false }, kinds := [], alts := [], laidByText := true, laidKinds := [.data], laidTests := true, laidLooks := .later }
def KeccakNoneCardSaid : Prop := Claim7.holds Tryd.pinned (.plain (OpenSpec.ofChange keccakNoneSpec)) keccakNoneCard

/-- THE SECOND FORM's CARD OF 'liverylaw03.KeccakPermutes'. -/
def keccakPermutesUptoCard : Claim7 := { stood := { row := keccakPermutesUptoRow, standIns := [], harness := (true, "1d2badfd97029887db3b538695fda68626c5907cf42018e6fbec4e73c1cd9265"), looks := false }, kinds := [], alts := [], laidByText := true, laidKinds := [.data], laidTests := true, laidLooks := .later }
def KeccakPermutesUptoCardSaid : Prop := Claim7.holds Tryd.pinned (.plain (OpenSpec.upto keccakPermutesSpec)) keccakPermutesUptoCard

/-- THE SECOND FORM's CARD OF 'liverylaw03.KeccakSums'. -/
def keccakSumsUptoCard : Claim7 := { stood := { row := keccakSumsUptoRow, standIns := [], harness := (true, "1d2badfd97029887db3b538695fda68626c5907cf42018e6fbec4e73c1cd9265"), looks := false }, kinds := [], alts := [], laidByText := true, laidKinds := [.data], laidTests := true, laidLooks := .later }
def KeccakSumsUptoCardSaid : Prop := Claim7.holds Tryd.pinned (.plain (OpenSpec.upto keccakSumsSpec)) keccakSumsUptoCard

/-- THE SECOND FORM's CARD OF 'liverylaw03.KeccakShakes'. -/
def keccakShakesUptoCard : Claim7 := { stood := { row := keccakShakesUptoRow, standIns := [], harness := (true, "1d2badfd97029887db3b538695fda68626c5907cf42018e6fbec4e73c1cd9265"), looks := false }, kinds := [], alts := [], laidByText := true, laidKinds := [.data], laidTests := true, laidLooks := .later }
def KeccakShakesUptoCardSaid : Prop := Claim7.holds Tryd.pinned (.plain (OpenSpec.upto keccakShakesSpec)) keccakShakesUptoCard

/-- THE SECOND FORM's CARD OF 'liverylaw03.KeccakReads'. -/
def keccakReadsUptoCard : Claim7 := { stood := { row := keccakReadsUptoRow, standIns := [], harness := (true, "1d2badfd97029887db3b538695fda68626c5907cf42018e6fbec4e73c1cd9265"), looks := false }, kinds := [], alts := [], laidByText := true, laidKinds := [.data], laidTests := true, laidLooks := .later }
def KeccakReadsUptoCardSaid : Prop := Claim7.holds Tryd.pinned (.plain (OpenSpec.upto keccakReadsSpec)) keccakReadsUptoCard

/-- THE SECOND FORM's CARD OF 'liverylaw03.KeccakPieces'. -/
def keccakPiecesUptoCard : Claim7 := { stood := { row := keccakPiecesUptoRow, standIns := [], harness := (true, "1d2badfd97029887db3b538695fda68626c5907cf42018e6fbec4e73c1cd9265"), looks := false }, kinds := [], alts := [], laidByText := true, laidKinds := [.data], laidTests := true, laidLooks := .later }
def KeccakPiecesUptoCardSaid : Prop := Claim7.holds Tryd.pinned (.plain (OpenSpec.upto keccakPiecesSpec)) keccakPiecesUptoCard

/-- THE SECOND FORM's CARD OF 'liverylaw03.KeccakLonger'. -/
def keccakLongerUptoCard : Claim7 := { stood := { row := keccakLongerUptoRow, standIns := [], harness := (true, "1d2badfd97029887db3b538695fda68626c5907cf42018e6fbec4e73c1cd9265"), looks := false }, kinds := [], alts := [], laidByText := true, laidKinds := [.data], laidTests := true, laidLooks := .later }
def KeccakLongerUptoCardSaid : Prop := Claim7.holds Tryd.pinned (.plain (OpenSpec.upto keccakLongerSpec)) keccakLongerUptoCard

/-- THE SECOND FORM's CARD OF 'liverylaw03.KeccakSponge'. -/
def keccakSpongeUptoCard : Claim7 := { stood := { row := keccakSpongeUptoRow, standIns := [], harness := (true, "1d2badfd97029887db3b538695fda68626c5907cf42018e6fbec4e73c1cd9265"), looks := false }, kinds := [], alts := [], laidByText := true, laidKinds := [.data], laidTests := true, laidLooks := .later }
def KeccakSpongeUptoCardSaid : Prop := Claim7.holds Tryd.pinned (.plain (OpenSpec.upto keccakSpongeSpec)) keccakSpongeUptoCard

/-- THE SECOND FORM's CARD OF 'liverylaw03.KeccakNone'. -/
def keccakNoneUptoCard : Claim7 := { stood := { row := keccakNoneUptoRow, standIns := [], harness := (true, "1d2badfd97029887db3b538695fda68626c5907cf42018e6fbec4e73c1cd9265"), looks := false }, kinds := [], alts := [], laidByText := true, laidKinds := [.data], laidTests := true, laidLooks := .later }
def KeccakNoneUptoCardSaid : Prop := Claim7.holds Tryd.pinned (.plain (OpenSpec.upto keccakNoneSpec)) keccakNoneUptoCard
end Rows
end Go.Proofs.YtjondbamnbgiaaaDoor
