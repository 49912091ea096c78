/-
  NARROWER THAN 'FOR EVERY INPUT', by the rows' own cells (each row's printed sentence says how): KeccakPermutes: laid · KeccakSums: laid · KeccakShakes: laid · KeccakReads: laid · KeccakPieces: laid · KeccakLonger: laid · KeccakSponge: laid · KeccakNone: laid.
  DERIVED. THE GIVEN ROWS OF THIS SEAT. 8 by the template 'for every input the law returns true; each argument reads behind the call as it read before'; 0 by the template 'total and deterministic' (their statements: YtjondbamnbgiaaaDoorTotals.lean).
  GIVEN WITH THE SEED: the statements are not yours to turn. If you find one false, say at which input.
  Laid BY PROGRAM, IN A SANDBOX (cutbox-rows.mjs): the forced cells as the released guide's own fill.sh prints them over the translation 962fa5740f7c4933… (all of the seat's roots in one cut). By AI agents, Wed Nov 11 2026. No macro, syntax, notation, axiom, sorry.
-/
import Derived.Test.YtjondbamnbgiaaaDoorChecked
import GoSem.Claim
import GoSem.ClaimJoined
import GoSem.ClaimMapViews
import Derived.JoinedTies
import Derived.KernelRfl
namespace Go.Proofs.YtjondbamnbgiaaaDoor
/- THE CELL 'sum', in the pinned program and in every row, IS THE sha256 OF THE DUMP (.gsa) THAT YtjondbamnbgiaaaDoorProg.lean LOADS. Nothing in Lean hashes anything: it is a label: what it is worth is what the hold of that sum in a sandbox is worth. -/
noncomputable def Tryd.pinned : Pinned := { name := "ytjondbamnbgiaaadoor", sum := "962fa5740f7c4933e8ee85e625c612a997eadf6da7deb0bc57755a28f69b0fd8", checked := Tryd.checked }
namespace Rows
def none {H : Type} : Left H := { results := [], args := [] }

/- WHAT THE LISTED PACKAGE-LEVEL VARIABLES READ AS WHEN THE CALL BEGINS. Each datum BY PROGRAM (the guide's laid-datum.mjs) off the statement by which the dump's own 'gosem.cut.vars' lays the variable. In a bare row this is a premise. The card (YtjondbamnbgiaaaDoorCards.lean) ties it to the program's text. -/
def laid_livery_keccak_constants {H : Type} : DataW H := .agg [.lit (.int .u64 1), .lit (.int .u64 32898), .lit (.int .u64 9223372036854808714), .lit (.int .u64 9223372039002292224), .lit (.int .u64 32907), .lit (.int .u64 2147483649), .lit (.int .u64 9223372039002292353), .lit (.int .u64 9223372036854808585), .lit (.int .u64 138), .lit (.int .u64 136), .lit (.int .u64 2147516425), .lit (.int .u64 2147483658), .lit (.int .u64 2147516555), .lit (.int .u64 9223372036854775947), .lit (.int .u64 9223372036854808713), .lit (.int .u64 9223372036854808579), .lit (.int .u64 9223372036854808578), .lit (.int .u64 9223372036854775936), .lit (.int .u64 32778), .lit (.int .u64 9223372039002259466), .lit (.int .u64 9223372039002292353), .lit (.int .u64 9223372036854808704), .lit (.int .u64 2147483649), .lit (.int .u64 9223372039002292232)]

/-- 'liverylaw03.KeccakPermutes': WHATEVER THE INPUT: true; the input reads as it did. -/
def keccakPermutesSpec : ChangeSpec := { name := "keccakPermutes", fn := fun _ => fun
  | [d] => { results := [.lit (.bool true)], args := [d] }
  | _ => none }
def keccakPermutesRow : OpenClaim := { program := "ytjondbamnbgiaaadoor", sum := "962fa5740f7c4933e8ee85e625c612a997eadf6da7deb0bc57755a28f69b0fd8", func := "livery/liverylaw03.KeccakPermutes", spec := "keccakPermutes", named := ["livery/keccak.constants"], apart := false, laid := [("livery/keccak.constants", laid_livery_keccak_constants)] }
def KeccakPermutesSaid : Prop := keccakPermutesRow.holds Tryd.pinned (OpenSpec.ofChange keccakPermutesSpec)

/-- ITS FALSE NEIGHBOUR: 'it returns false'. Refute it at one input. -/
def keccakPermutesWrong : ChangeSpec := { name := "keccakPermutes", fn := fun _ => fun
  | [d] => { results := [.lit (.bool false)], args := [d] }
  | _ => none }
def KeccakPermutesWrongFalsely : Prop := keccakPermutesRow.holds Tryd.pinned (OpenSpec.ofChange keccakPermutesWrong)

/-- 'liverylaw03.KeccakSums': WHATEVER THE INPUT: true; the input reads as it did. -/
def keccakSumsSpec : ChangeSpec := { name := "keccakSums", fn := fun _ => fun
  | [d] => { results := [.lit (.bool true)], args := [d] }
  | _ => none }
def keccakSumsRow : OpenClaim := { program := "ytjondbamnbgiaaadoor", sum := "962fa5740f7c4933e8ee85e625c612a997eadf6da7deb0bc57755a28f69b0fd8", func := "livery/liverylaw03.KeccakSums", spec := "keccakSums", named := ["livery/keccak.constants"], apart := false, laid := [("livery/keccak.constants", laid_livery_keccak_constants)] }
def KeccakSumsSaid : Prop := keccakSumsRow.holds Tryd.pinned (OpenSpec.ofChange keccakSumsSpec)

/-- ITS FALSE NEIGHBOUR: 'it returns false'. Refute it at one input. -/
def keccakSumsWrong : ChangeSpec := { name := "keccakSums", fn := fun _ => fun
  | [d] => { results := [.lit (.bool false)], args := [d] }
  | _ => none }
def KeccakSumsWrongFalsely : Prop := keccakSumsRow.holds Tryd.pinned (OpenSpec.ofChange keccakSumsWrong)

/-- 'liverylaw03.KeccakShakes': WHATEVER THE INPUT: true; the input reads as it did. -/
def keccakShakesSpec : ChangeSpec := { name := "keccakShakes", fn := fun _ => fun
  | [d1, d2, d3] => { results := [.lit (.bool true)], args := [d1, d2, d3] }
  | _ => none }
def keccakShakesRow : OpenClaim := { program := "ytjondbamnbgiaaadoor", sum := "962fa5740f7c4933e8ee85e625c612a997eadf6da7deb0bc57755a28f69b0fd8", func := "livery/liverylaw03.KeccakShakes", spec := "keccakShakes", named := ["livery/keccak.constants"], apart := false, laid := [("livery/keccak.constants", laid_livery_keccak_constants)] }
def KeccakShakesSaid : Prop := keccakShakesRow.holds Tryd.pinned (OpenSpec.ofChange keccakShakesSpec)

/-- ITS FALSE NEIGHBOUR: 'it returns false'. Refute it at one input. -/
def keccakShakesWrong : ChangeSpec := { name := "keccakShakes", fn := fun _ => fun
  | [d1, d2, d3] => { results := [.lit (.bool false)], args := [d1, d2, d3] }
  | _ => none }
def KeccakShakesWrongFalsely : Prop := keccakShakesRow.holds Tryd.pinned (OpenSpec.ofChange keccakShakesWrong)

/-- 'liverylaw03.KeccakReads': WHATEVER THE INPUT: true; the input reads as it did. -/
def keccakReadsSpec : ChangeSpec := { name := "keccakReads", fn := fun _ => fun
  | [d1, d2, d3] => { results := [.lit (.bool true)], args := [d1, d2, d3] }
  | _ => none }
def keccakReadsRow : OpenClaim := { program := "ytjondbamnbgiaaadoor", sum := "962fa5740f7c4933e8ee85e625c612a997eadf6da7deb0bc57755a28f69b0fd8", func := "livery/liverylaw03.KeccakReads", spec := "keccakReads", named := ["livery/keccak.constants"], apart := false, laid := [("livery/keccak.constants", laid_livery_keccak_constants)] }
def KeccakReadsSaid : Prop := keccakReadsRow.holds Tryd.pinned (OpenSpec.ofChange keccakReadsSpec)

/-- ITS FALSE NEIGHBOUR: 'it returns false'. Refute it at one input. -/
def keccakReadsWrong : ChangeSpec := { name := "keccakReads", fn := fun _ => fun
  | [d1, d2, d3] => { results := [.lit (.bool false)], args := [d1, d2, d3] }
  | _ => none }
def KeccakReadsWrongFalsely : Prop := keccakReadsRow.holds Tryd.pinned (OpenSpec.ofChange keccakReadsWrong)

/-- 'liverylaw03.KeccakPieces': WHATEVER THE INPUT: true; the input reads as it did. -/
def keccakPiecesSpec : ChangeSpec := { name := "keccakPieces", fn := fun _ => fun
  | [d1, d2, d3] => { results := [.lit (.bool true)], args := [d1, d2, d3] }
  | _ => none }
def keccakPiecesRow : OpenClaim := { program := "ytjondbamnbgiaaadoor", sum := "962fa5740f7c4933e8ee85e625c612a997eadf6da7deb0bc57755a28f69b0fd8", func := "livery/liverylaw03.KeccakPieces", spec := "keccakPieces", named := ["livery/keccak.constants"], apart := false, laid := [("livery/keccak.constants", laid_livery_keccak_constants)] }
def KeccakPiecesSaid : Prop := keccakPiecesRow.holds Tryd.pinned (OpenSpec.ofChange keccakPiecesSpec)

/-- ITS FALSE NEIGHBOUR: 'it returns false'. Refute it at one input. -/
def keccakPiecesWrong : ChangeSpec := { name := "keccakPieces", fn := fun _ => fun
  | [d1, d2, d3] => { results := [.lit (.bool false)], args := [d1, d2, d3] }
  | _ => none }
def KeccakPiecesWrongFalsely : Prop := keccakPiecesRow.holds Tryd.pinned (OpenSpec.ofChange keccakPiecesWrong)

/-- 'liverylaw03.KeccakLonger': WHATEVER THE INPUT: true; the input reads as it did. -/
def keccakLongerSpec : ChangeSpec := { name := "keccakLonger", fn := fun _ => fun
  | [d1, d2, d3, d4] => { results := [.lit (.bool true)], args := [d1, d2, d3, d4] }
  | _ => none }
def keccakLongerRow : OpenClaim := { program := "ytjondbamnbgiaaadoor", sum := "962fa5740f7c4933e8ee85e625c612a997eadf6da7deb0bc57755a28f69b0fd8", func := "livery/liverylaw03.KeccakLonger", spec := "keccakLonger", named := ["livery/keccak.constants"], apart := false, laid := [("livery/keccak.constants", laid_livery_keccak_constants)] }
def KeccakLongerSaid : Prop := keccakLongerRow.holds Tryd.pinned (OpenSpec.ofChange keccakLongerSpec)

/-- ITS FALSE NEIGHBOUR: 'it returns false'. Refute it at one input. -/
def keccakLongerWrong : ChangeSpec := { name := "keccakLonger", fn := fun _ => fun
  | [d1, d2, d3, d4] => { results := [.lit (.bool false)], args := [d1, d2, d3, d4] }
  | _ => none }
def KeccakLongerWrongFalsely : Prop := keccakLongerRow.holds Tryd.pinned (OpenSpec.ofChange keccakLongerWrong)

/-- 'liverylaw03.KeccakSponge': WHATEVER THE INPUT: true; the input reads as it did. -/
def keccakSpongeSpec : ChangeSpec := { name := "keccakSponge", fn := fun _ => fun
  | [d] => { results := [.lit (.bool true)], args := [d] }
  | _ => none }
def keccakSpongeRow : OpenClaim := { program := "ytjondbamnbgiaaadoor", sum := "962fa5740f7c4933e8ee85e625c612a997eadf6da7deb0bc57755a28f69b0fd8", func := "livery/liverylaw03.KeccakSponge", spec := "keccakSponge", named := ["livery/keccak.constants"], apart := false, laid := [("livery/keccak.constants", laid_livery_keccak_constants)] }
def KeccakSpongeSaid : Prop := keccakSpongeRow.holds Tryd.pinned (OpenSpec.ofChange keccakSpongeSpec)

/-- ITS FALSE NEIGHBOUR: 'it returns false'. Refute it at one input. -/
def keccakSpongeWrong : ChangeSpec := { name := "keccakSponge", fn := fun _ => fun
  | [d] => { results := [.lit (.bool false)], args := [d] }
  | _ => none }
def KeccakSpongeWrongFalsely : Prop := keccakSpongeRow.holds Tryd.pinned (OpenSpec.ofChange keccakSpongeWrong)

/-- 'liverylaw03.KeccakNone': WHATEVER THE INPUT: true; the input reads as it did. -/
def keccakNoneSpec : ChangeSpec := { name := "keccakNone", fn := fun _ => fun
  | [d] => { results := [.lit (.bool true)], args := [d] }
  | _ => none }
def keccakNoneRow : OpenClaim := { program := "ytjondbamnbgiaaadoor", sum := "962fa5740f7c4933e8ee85e625c612a997eadf6da7deb0bc57755a28f69b0fd8", func := "livery/liverylaw03.KeccakNone", spec := "keccakNone", named := ["livery/keccak.constants"], apart := false, laid := [("livery/keccak.constants", laid_livery_keccak_constants)] }
def KeccakNoneSaid : Prop := keccakNoneRow.holds Tryd.pinned (OpenSpec.ofChange keccakNoneSpec)

/-- ITS FALSE NEIGHBOUR: 'it returns false'. Refute it at one input. -/
def keccakNoneWrong : ChangeSpec := { name := "keccakNone", fn := fun _ => fun
  | [d] => { results := [.lit (.bool false)], args := [d] }
  | _ => none }
def KeccakNoneWrongFalsely : Prop := keccakNoneRow.holds Tryd.pinned (OpenSpec.ofChange keccakNoneWrong)

/- THE SECOND FORM. 'bulk': how many values and letters a reading holds, each counted each time it is reached (what is shared counts as often as it is met; a slice's spare places count too). A statement '..UptoSaid' is the law's where the arguments, and the package variables that the reading takes, are together of bulk at most 1048576: NARROWER than '..Said'. Prove '..Said' where nothing that the law and all that it calls make is longer than what came in: it says more and counts as full. Else prove '..UptoSaid'. A law counts once. -/
mutual
def uptoBulk {H : Type} : DataW H → Nat
  | .lit (.string bytes) => bytes.length + 1
  | .lit _ => 1
  | .nil => 1
  | .ptr d => uptoBulk d + 1
  | .slice elems spare => uptoBulkAll elems + uptoBulkAll spare + 1
  | .agg parts => uptoBulkAll parts + 1
  | .iface _ d => uptoBulk d + 1
  | .map entries => uptoBulkEntries entries + 1
  | .held _ => 1
def uptoBulkAll {H : Type} : List (DataW H) → Nat
  | [] => 0
  | d :: r => uptoBulk d + uptoBulkAll r
def uptoBulkEntries {H : Type} : List (Lit × DataW H) → Nat
  | [] => 0
  | x :: r => uptoBulkEntry x + uptoBulkEntries r
def uptoBulkEntry {H : Type} : Lit × DataW H → Nat
  | (.string bytes, d) => bytes.length + uptoBulk d + 1
  | (_, d) => uptoBulk d + 1
 end
def uptoSmall : (H : Type) → List (DataW H) → Bool := fun _ ds => decide (uptoBulkAll ds ≤ 1048576)
def OpenSpec.upto (s : _root_.Go.ChangeSpec) : _root_.Go.OpenSpec := { _root_.Go.OpenSpec.ofChange s with cond := some uptoSmall }

/-- 'liverylaw03.KeccakPermutes', WHERE WHAT IT READS IS OF BULK AT MOST 1048576: true; the input reads as it did. -/
def keccakPermutesUptoRow : OpenClaim := { program := "ytjondbamnbgiaaadoor", sum := "962fa5740f7c4933e8ee85e625c612a997eadf6da7deb0bc57755a28f69b0fd8", func := "livery/liverylaw03.KeccakPermutes", spec := "keccakPermutes", named := ["livery/keccak.constants"], apart := false, laid := [("livery/keccak.constants", laid_livery_keccak_constants)], narrowed := true }
def KeccakPermutesUptoSaid : Prop := keccakPermutesUptoRow.holds Tryd.pinned (OpenSpec.upto keccakPermutesSpec)

/-- 'liverylaw03.KeccakSums', WHERE WHAT IT READS IS OF BULK AT MOST 1048576: true; the input reads as it did. -/
def keccakSumsUptoRow : OpenClaim := { program := "ytjondbamnbgiaaadoor", sum := "962fa5740f7c4933e8ee85e625c612a997eadf6da7deb0bc57755a28f69b0fd8", func := "livery/liverylaw03.KeccakSums", spec := "keccakSums", named := ["livery/keccak.constants"], apart := false, laid := [("livery/keccak.constants", laid_livery_keccak_constants)], narrowed := true }
def KeccakSumsUptoSaid : Prop := keccakSumsUptoRow.holds Tryd.pinned (OpenSpec.upto keccakSumsSpec)

/-- 'liverylaw03.KeccakShakes', WHERE WHAT IT READS IS OF BULK AT MOST 1048576: true; the input reads as it did. -/
def keccakShakesUptoRow : OpenClaim := { program := "ytjondbamnbgiaaadoor", sum := "962fa5740f7c4933e8ee85e625c612a997eadf6da7deb0bc57755a28f69b0fd8", func := "livery/liverylaw03.KeccakShakes", spec := "keccakShakes", named := ["livery/keccak.constants"], apart := false, laid := [("livery/keccak.constants", laid_livery_keccak_constants)], narrowed := true }
def KeccakShakesUptoSaid : Prop := keccakShakesUptoRow.holds Tryd.pinned (OpenSpec.upto keccakShakesSpec)

/-- 'liverylaw03.KeccakReads', WHERE WHAT IT READS IS OF BULK AT MOST 1048576: true; the input reads as it did. -/
def keccakReadsUptoRow : OpenClaim := { program := "ytjondbamnbgiaaadoor", sum := "962fa5740f7c4933e8ee85e625c612a997eadf6da7deb0bc57755a28f69b0fd8", func := "livery/liverylaw03.KeccakReads", spec := "keccakReads", named := ["livery/keccak.constants"], apart := false, laid := [("livery/keccak.constants", laid_livery_keccak_constants)], narrowed := true }
def KeccakReadsUptoSaid : Prop := keccakReadsUptoRow.holds Tryd.pinned (OpenSpec.upto keccakReadsSpec)

/-- 'liverylaw03.KeccakPieces', WHERE WHAT IT READS IS OF BULK AT MOST 1048576: true; the input reads as it did. -/
def keccakPiecesUptoRow : OpenClaim := { program := "ytjondbamnbgiaaadoor", sum := "962fa5740f7c4933e8ee85e625c612a997eadf6da7deb0bc57755a28f69b0fd8", func := "livery/liverylaw03.KeccakPieces", spec := "keccakPieces", named := ["livery/keccak.constants"], apart := false, laid := [("livery/keccak.constants", laid_livery_keccak_constants)], narrowed := true }
def KeccakPiecesUptoSaid : Prop := keccakPiecesUptoRow.holds Tryd.pinned (OpenSpec.upto keccakPiecesSpec)

/-- 'liverylaw03.KeccakLonger', WHERE WHAT IT READS IS OF BULK AT MOST 1048576: true; the input reads as it did. -/
def keccakLongerUptoRow : OpenClaim := { program := "ytjondbamnbgiaaadoor", sum := "962fa5740f7c4933e8ee85e625c612a997eadf6da7deb0bc57755a28f69b0fd8", func := "livery/liverylaw03.KeccakLonger", spec := "keccakLonger", named := ["livery/keccak.constants"], apart := false, laid := [("livery/keccak.constants", laid_livery_keccak_constants)], narrowed := true }
def KeccakLongerUptoSaid : Prop := keccakLongerUptoRow.holds Tryd.pinned (OpenSpec.upto keccakLongerSpec)

/-- 'liverylaw03.KeccakSponge', WHERE WHAT IT READS IS OF BULK AT MOST 1048576: true; the input reads as it did. -/
def keccakSpongeUptoRow : OpenClaim := { program := "ytjondbamnbgiaaadoor", sum := "962fa5740f7c4933e8ee85e625c612a997eadf6da7deb0bc57755a28f69b0fd8", func := "livery/liverylaw03.KeccakSponge", spec := "keccakSponge", named := ["livery/keccak.constants"], apart := false, laid := [("livery/keccak.constants", laid_livery_keccak_constants)], narrowed := true }
def KeccakSpongeUptoSaid : Prop := keccakSpongeUptoRow.holds Tryd.pinned (OpenSpec.upto keccakSpongeSpec)

/-- 'liverylaw03.KeccakNone', WHERE WHAT IT READS IS OF BULK AT MOST 1048576: true; the input reads as it did. -/
def keccakNoneUptoRow : OpenClaim := { program := "ytjondbamnbgiaaadoor", sum := "962fa5740f7c4933e8ee85e625c612a997eadf6da7deb0bc57755a28f69b0fd8", func := "livery/liverylaw03.KeccakNone", spec := "keccakNone", named := ["livery/keccak.constants"], apart := false, laid := [("livery/keccak.constants", laid_livery_keccak_constants)], narrowed := true }
def KeccakNoneUptoSaid : Prop := keccakNoneUptoRow.holds Tryd.pinned (OpenSpec.upto keccakNoneSpec)

end Rows
end Go.Proofs.YtjondbamnbgiaaaDoor
