/-
  No cell of these rows narrows 'for every input' (looked for: loops, veiled, ifaces, maps, wideKeys, modest, calm, conditions, laid).
  DERIVED. THE GIVEN ROWS OF THIS SEAT. 6 by the template 'for every input the law returns true; each argument reads behind the call as it read before'; 0 by the template 'total and deterministic' (their statements: YtijkhpiehaocpaaTotals.lean).
  GIVEN WITH THE SEED: the statements are not yours to turn. If you find one false, say at which input.
  Laid BY PROGRAM, IN A SANDBOX (cutbox-rows.mjs): the forced cells as the released guide's own fill.sh prints them over the translation 8ef9fa6d3a89ce3d… (all of the seat's roots in one cut). By AI agents, Wed Nov 11 2026. No macro, syntax, notation, axiom, sorry.
-/
import Derived.Test.YtijkhpiehaocpaaChecked
import GoSem.Claim
import GoSem.ClaimJoined
import GoSem.ClaimMapViews
import Derived.JoinedTies
import Derived.KernelRfl
namespace Go.Proofs.Ytijkhpiehaocpaa
/- THE CELL 'sum', in the pinned program and in every row, IS THE sha256 OF THE DUMP (.gsa) THAT YtijkhpiehaocpaaProg.lean LOADS. Nothing in Lean hashes anything: it is a label: what it is worth is what the hold of that sum in a sandbox is worth. -/
noncomputable def Try.pinned : Pinned := { name := "ytijkhpiehaocpaa", sum := "8ef9fa6d3a89ce3db7868ed774dc6984476bfcfafcb9f09972c0d97f1a624fa3", checked := Try.checked }
namespace Rows
def none {H : Type} : Left H := { results := [], args := [] }

/-- 'liverylaw01.OctetNumbers': WHATEVER THE INPUT: true; the input reads as it did. -/
def octetNumbersSpec : ChangeSpec := { name := "octetNumbers", fn := fun _ => fun
  | [d1, d2, d3] => { results := [.lit (.bool true)], args := [d1, d2, d3] }
  | _ => none }
def octetNumbersRow : OpenClaim := { program := "ytijkhpiehaocpaa", sum := "8ef9fa6d3a89ce3db7868ed774dc6984476bfcfafcb9f09972c0d97f1a624fa3", func := "livery/liverylaw01.OctetNumbers", spec := "octetNumbers", inPlace := ["internal/abi.NoEscape"], apart := false }
def OctetNumbersSaid : Prop := octetNumbersRow.holds Try.pinned (OpenSpec.ofChange octetNumbersSpec)

/-- ITS FALSE NEIGHBOUR: 'it returns false'. Refute it at one input. -/
def octetNumbersWrong : ChangeSpec := { name := "octetNumbers", fn := fun _ => fun
  | [d1, d2, d3] => { results := [.lit (.bool false)], args := [d1, d2, d3] }
  | _ => none }
def OctetNumbersWrongFalsely : Prop := octetNumbersRow.holds Try.pinned (OpenSpec.ofChange octetNumbersWrong)

/-- 'liverylaw01.OctetBits': WHATEVER THE INPUT: true; the input reads as it did. -/
def octetBitsSpec : ChangeSpec := { name := "octetBits", fn := fun _ => fun
  | [d1, d2] => { results := [.lit (.bool true)], args := [d1, d2] }
  | _ => none }
def octetBitsRow : OpenClaim := { program := "ytijkhpiehaocpaa", sum := "8ef9fa6d3a89ce3db7868ed774dc6984476bfcfafcb9f09972c0d97f1a624fa3", func := "livery/liverylaw01.OctetBits", spec := "octetBits", inPlace := ["internal/abi.NoEscape"], apart := false }
def OctetBitsSaid : Prop := octetBitsRow.holds Try.pinned (OpenSpec.ofChange octetBitsSpec)

/-- ITS FALSE NEIGHBOUR: 'it returns false'. Refute it at one input. -/
def octetBitsWrong : ChangeSpec := { name := "octetBits", fn := fun _ => fun
  | [d1, d2] => { results := [.lit (.bool false)], args := [d1, d2] }
  | _ => none }
def OctetBitsWrongFalsely : Prop := octetBitsRow.holds Try.pinned (OpenSpec.ofChange octetBitsWrong)

/-- 'liverylaw01.OctetHolds': WHATEVER THE INPUT: true; the input reads as it did. -/
def octetHoldsSpec : ChangeSpec := { name := "octetHolds", fn := fun _ => fun
  | [d1, d2, d3] => { results := [.lit (.bool true)], args := [d1, d2, d3] }
  | _ => none }
def octetHoldsRow : OpenClaim := { program := "ytijkhpiehaocpaa", sum := "8ef9fa6d3a89ce3db7868ed774dc6984476bfcfafcb9f09972c0d97f1a624fa3", func := "livery/liverylaw01.OctetHolds", spec := "octetHolds", inPlace := ["internal/abi.NoEscape"], apart := false }
def OctetHoldsSaid : Prop := octetHoldsRow.holds Try.pinned (OpenSpec.ofChange octetHoldsSpec)

/-- ITS FALSE NEIGHBOUR: 'it returns false'. Refute it at one input. -/
def octetHoldsWrong : ChangeSpec := { name := "octetHolds", fn := fun _ => fun
  | [d1, d2, d3] => { results := [.lit (.bool false)], args := [d1, d2, d3] }
  | _ => none }
def OctetHoldsWrongFalsely : Prop := octetHoldsRow.holds Try.pinned (OpenSpec.ofChange octetHoldsWrong)

/-- 'liverylaw01.OctetHexes': WHATEVER THE INPUT: true; the input reads as it did. -/
def octetHexesSpec : ChangeSpec := { name := "octetHexes", fn := fun _ => fun
  | [d1, d2] => { results := [.lit (.bool true)], args := [d1, d2] }
  | _ => none }
def octetHexesRow : OpenClaim := { program := "ytijkhpiehaocpaa", sum := "8ef9fa6d3a89ce3db7868ed774dc6984476bfcfafcb9f09972c0d97f1a624fa3", func := "livery/liverylaw01.OctetHexes", spec := "octetHexes", inPlace := ["internal/abi.NoEscape"], apart := false }
def OctetHexesSaid : Prop := octetHexesRow.holds Try.pinned (OpenSpec.ofChange octetHexesSpec)

/-- ITS FALSE NEIGHBOUR: 'it returns false'. Refute it at one input. -/
def octetHexesWrong : ChangeSpec := { name := "octetHexes", fn := fun _ => fun
  | [d1, d2] => { results := [.lit (.bool false)], args := [d1, d2] }
  | _ => none }
def OctetHexesWrongFalsely : Prop := octetHexesRow.holds Try.pinned (OpenSpec.ofChange octetHexesWrong)

/-- 'liverylaw01.OctetChoice': WHATEVER THE INPUT: true; the input reads as it did. -/
def octetChoiceSpec : ChangeSpec := { name := "octetChoice", fn := fun _ => fun
  | [d1, d2] => { results := [.lit (.bool true)], args := [d1, d2] }
  | _ => none }
def octetChoiceRow : OpenClaim := { program := "ytijkhpiehaocpaa", sum := "8ef9fa6d3a89ce3db7868ed774dc6984476bfcfafcb9f09972c0d97f1a624fa3", func := "livery/liverylaw01.OctetChoice", spec := "octetChoice", inPlace := ["internal/abi.NoEscape"], apart := false }
def OctetChoiceSaid : Prop := octetChoiceRow.holds Try.pinned (OpenSpec.ofChange octetChoiceSpec)

/-- ITS FALSE NEIGHBOUR: 'it returns false'. Refute it at one input. -/
def octetChoiceWrong : ChangeSpec := { name := "octetChoice", fn := fun _ => fun
  | [d1, d2] => { results := [.lit (.bool false)], args := [d1, d2] }
  | _ => none }
def OctetChoiceWrongFalsely : Prop := octetChoiceRow.holds Try.pinned (OpenSpec.ofChange octetChoiceWrong)

/-- 'liverylaw01.OctetPlain': WHATEVER THE INPUT: true; the input reads as it did. -/
def octetPlainSpec : ChangeSpec := { name := "octetPlain", fn := fun _ => fun
  | [d1, d2] => { results := [.lit (.bool true)], args := [d1, d2] }
  | _ => none }
def octetPlainRow : OpenClaim := { program := "ytijkhpiehaocpaa", sum := "8ef9fa6d3a89ce3db7868ed774dc6984476bfcfafcb9f09972c0d97f1a624fa3", func := "livery/liverylaw01.OctetPlain", spec := "octetPlain", inPlace := ["internal/abi.NoEscape"], apart := false }
def OctetPlainSaid : Prop := octetPlainRow.holds Try.pinned (OpenSpec.ofChange octetPlainSpec)

/-- ITS FALSE NEIGHBOUR: 'it returns false'. Refute it at one input. -/
def octetPlainWrong : ChangeSpec := { name := "octetPlain", fn := fun _ => fun
  | [d1, d2] => { results := [.lit (.bool false)], args := [d1, d2] }
  | _ => none }
def OctetPlainWrongFalsely : Prop := octetPlainRow.holds Try.pinned (OpenSpec.ofChange octetPlainWrong)

/- THE SECOND FORM. 'bulk': how many values and letters a reading holds, each counted each time it is reached (what is shared counts as often as it is met; a slice's spare places count too). A statement '..UptoSaid' is the law's where the arguments, and the package variables that the reading takes, are together of bulk at most 1048576: NARROWER than '..Said'. Prove '..Said' where nothing that the law and all that it calls make is longer than what came in: it says more and counts as full. Else prove '..UptoSaid'. A law counts once. -/
mutual
def uptoBulk {H : Type} : DataW H → Nat
  | .lit (.string bytes) => bytes.length + 1
  | .lit _ => 1
  | .nil => 1
  | .ptr d => uptoBulk d + 1
  | .slice elems spare => uptoBulkAll elems + uptoBulkAll spare + 1
  | .agg parts => uptoBulkAll parts + 1
  | .iface _ d => uptoBulk d + 1
  | .map entries => uptoBulkEntries entries + 1
  | .held _ => 1
def uptoBulkAll {H : Type} : List (DataW H) → Nat
  | [] => 0
  | d :: r => uptoBulk d + uptoBulkAll r
def uptoBulkEntries {H : Type} : List (Lit × DataW H) → Nat
  | [] => 0
  | x :: r => uptoBulkEntry x + uptoBulkEntries r
def uptoBulkEntry {H : Type} : Lit × DataW H → Nat
  | (.string bytes, d) => bytes.length + uptoBulk d + 1
  | (_, d) => uptoBulk d + 1
 end
def uptoSmall : (H : Type) → List (DataW H) → Bool := fun _ ds => decide (uptoBulkAll ds ≤ 1048576)
def OpenSpec.upto (s : _root_.Go.ChangeSpec) : _root_.Go.OpenSpec := { _root_.Go.OpenSpec.ofChange s with cond := some uptoSmall }

/-- 'liverylaw01.OctetNumbers', WHERE WHAT IT READS IS OF BULK AT MOST 1048576: true; the input reads as it did. -/
def octetNumbersUptoRow : OpenClaim := { program := "ytijkhpiehaocpaa", sum := "8ef9fa6d3a89ce3db7868ed774dc6984476bfcfafcb9f09972c0d97f1a624fa3", func := "livery/liverylaw01.OctetNumbers", spec := "octetNumbers", inPlace := ["internal/abi.NoEscape"], apart := false, narrowed := true }
def OctetNumbersUptoSaid : Prop := octetNumbersUptoRow.holds Try.pinned (OpenSpec.upto octetNumbersSpec)

/-- 'liverylaw01.OctetBits', WHERE WHAT IT READS IS OF BULK AT MOST 1048576: true; the input reads as it did. -/
def octetBitsUptoRow : OpenClaim := { program := "ytijkhpiehaocpaa", sum := "8ef9fa6d3a89ce3db7868ed774dc6984476bfcfafcb9f09972c0d97f1a624fa3", func := "livery/liverylaw01.OctetBits", spec := "octetBits", inPlace := ["internal/abi.NoEscape"], apart := false, narrowed := true }
def OctetBitsUptoSaid : Prop := octetBitsUptoRow.holds Try.pinned (OpenSpec.upto octetBitsSpec)

/-- 'liverylaw01.OctetHolds', WHERE WHAT IT READS IS OF BULK AT MOST 1048576: true; the input reads as it did. -/
def octetHoldsUptoRow : OpenClaim := { program := "ytijkhpiehaocpaa", sum := "8ef9fa6d3a89ce3db7868ed774dc6984476bfcfafcb9f09972c0d97f1a624fa3", func := "livery/liverylaw01.OctetHolds", spec := "octetHolds", inPlace := ["internal/abi.NoEscape"], apart := false, narrowed := true }
def OctetHoldsUptoSaid : Prop := octetHoldsUptoRow.holds Try.pinned (OpenSpec.upto octetHoldsSpec)

/-- 'liverylaw01.OctetHexes', WHERE WHAT IT READS IS OF BULK AT MOST 1048576: true; the input reads as it did. -/
def octetHexesUptoRow : OpenClaim := { program := "ytijkhpiehaocpaa", sum := "8ef9fa6d3a89ce3db7868ed774dc6984476bfcfafcb9f09972c0d97f1a624fa3", func := "livery/liverylaw01.OctetHexes", spec := "octetHexes", inPlace := ["internal/abi.NoEscape"], apart := false, narrowed := true }
def OctetHexesUptoSaid : Prop := octetHexesUptoRow.holds Try.pinned (OpenSpec.upto octetHexesSpec)

/-- 'liverylaw01.OctetChoice', WHERE WHAT IT READS IS OF BULK AT MOST 1048576: true; the input reads as it did. -/
def octetChoiceUptoRow : OpenClaim := { program := "ytijkhpiehaocpaa", sum := "8ef9fa6d3a89ce3db7868ed774dc6984476bfcfafcb9f09972c0d97f1a624fa3", func := "livery/liverylaw01.OctetChoice", spec := "octetChoice", inPlace := ["internal/abi.NoEscape"], apart := false, narrowed := true }
def OctetChoiceUptoSaid : Prop := octetChoiceUptoRow.holds Try.pinned (OpenSpec.upto octetChoiceSpec)

/-- 'liverylaw01.OctetPlain', WHERE WHAT IT READS IS OF BULK AT MOST 1048576: true; the input reads as it did. -/
def octetPlainUptoRow : OpenClaim := { program := "ytijkhpiehaocpaa", sum := "8ef9fa6d3a89ce3db7868ed774dc6984476bfcfafcb9f09972c0d97f1a624fa3", func := "livery/liverylaw01.OctetPlain", spec := "octetPlain", inPlace := ["internal/abi.NoEscape"], apart := false, narrowed := true }
def OctetPlainUptoSaid : Prop := octetPlainUptoRow.holds Try.pinned (OpenSpec.upto octetPlainSpec)

end Rows
end Go.Proofs.Ytijkhpiehaocpaa
