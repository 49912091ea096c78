/-
  NARROWER THAN 'FOR EVERY INPUT', by the rows' own cells (each row's printed sentence says how): Sha2Blocks: laid · Sha2Sums: laid · Sha2Hashes: laid · Sha2Keys: laid · Sha2Pieces: laid · Sha2Begins: laid · Sha2Padded: laid · Sha2None: laid.
  DERIVED. THE GIVEN ROWS OF THIS SEAT. 8 by the template 'for every input the law returns true; each argument reads behind the call as it read before'; 0 by the template 'total and deterministic' (their statements: YthafhghnciofaaaDoorTotals.lean).
  GIVEN WITH THE SEED: the statements are not yours to turn. If you find one false, say at which input.
  Laid BY PROGRAM, IN A SANDBOX (cutbox-rows.mjs): the forced cells as the released guide's own fill.sh prints them over the translation d8176d58c0402deb… (all of the seat's roots in one cut). By AI agents, Wed Nov 11 2026. No macro, syntax, notation, axiom, sorry.
-/
import Derived.Test.YthafhghnciofaaaDoorChecked
import GoSem.Claim
import GoSem.ClaimJoined
import GoSem.ClaimMapViews
import Derived.JoinedTies
import Derived.KernelRfl
namespace Go.Proofs.YthafhghnciofaaaDoor
/- THE CELL 'sum', in the pinned program and in every row, IS THE sha256 OF THE DUMP (.gsa) THAT YthafhghnciofaaaDoorProg.lean LOADS. Nothing in Lean hashes anything: it is a label: what it is worth is what the hold of that sum in a sandbox is worth. -/
noncomputable def Tryd.pinned : Pinned := { name := "ythafhghnciofaaadoor", sum := "d8176d58c0402deb7d6a46416f8ac42cbcd22e3955922894de853dd7e413e6cf", checked := Tryd.checked }
namespace Rows
def none {H : Type} : Left H := { results := [], args := [] }

/- WHAT THE LISTED PACKAGE-LEVEL VARIABLES READ AS WHEN THE CALL BEGINS. Each datum BY PROGRAM (the guide's laid-datum.mjs) off the statement by which the dump's own 'gosem.cut.vars' lays the variable. In a bare row this is a premise. The card (YthafhghnciofaaaDoorCards.lean) ties it to the program's text. -/
def laid_livery_sha2_constants {H : Type} : DataW H := .agg [.lit (.int .u32 1116352408), .lit (.int .u32 1899447441), .lit (.int .u32 3049323471), .lit (.int .u32 3921009573), .lit (.int .u32 961987163), .lit (.int .u32 1508970993), .lit (.int .u32 2453635748), .lit (.int .u32 2870763221), .lit (.int .u32 3624381080), .lit (.int .u32 310598401), .lit (.int .u32 607225278), .lit (.int .u32 1426881987), .lit (.int .u32 1925078388), .lit (.int .u32 2162078206), .lit (.int .u32 2614888103), .lit (.int .u32 3248222580), .lit (.int .u32 3835390401), .lit (.int .u32 4022224774), .lit (.int .u32 264347078), .lit (.int .u32 604807628), .lit (.int .u32 770255983), .lit (.int .u32 1249150122), .lit (.int .u32 1555081692), .lit (.int .u32 1996064986), .lit (.int .u32 2554220882), .lit (.int .u32 2821834349), .lit (.int .u32 2952996808), .lit (.int .u32 3210313671), .lit (.int .u32 3336571891), .lit (.int .u32 3584528711), .lit (.int .u32 113926993), .lit (.int .u32 338241895), .lit (.int .u32 666307205), .lit (.int .u32 773529912), .lit (.int .u32 1294757372), .lit (.int .u32 1396182291), .lit (.int .u32 1695183700), .lit (.int .u32 1986661051), .lit (.int .u32 2177026350), .lit (.int .u32 2456956037), .lit (.int .u32 2730485921), .lit (.int .u32 2820302411), .lit (.int .u32 3259730800), .lit (.int .u32 3345764771), .lit (.int .u32 3516065817), .lit (.int .u32 3600352804), .lit (.int .u32 4094571909), .lit (.int .u32 275423344), .lit (.int .u32 430227734), .lit (.int .u32 506948616), .lit (.int .u32 659060556), .lit (.int .u32 883997877), .lit (.int .u32 958139571), .lit (.int .u32 1322822218), .lit (.int .u32 1537002063), .lit (.int .u32 1747873779), .lit (.int .u32 1955562222), .lit (.int .u32 2024104815), .lit (.int .u32 2227730452), .lit (.int .u32 2361852424), .lit (.int .u32 2428436474), .lit (.int .u32 2756734187), .lit (.int .u32 3204031479), .lit (.int .u32 3329325298)]

/-- 'liverylaw02.Sha2Blocks': WHATEVER THE INPUT: true; the input reads as it did. -/
def sha2BlocksSpec : ChangeSpec := { name := "sha2Blocks", fn := fun _ => fun
  | [d1, d2] => { results := [.lit (.bool true)], args := [d1, d2] }
  | _ => none }
def sha2BlocksRow : OpenClaim := { program := "ythafhghnciofaaadoor", sum := "d8176d58c0402deb7d6a46416f8ac42cbcd22e3955922894de853dd7e413e6cf", func := "livery/liverylaw02.Sha2Blocks", spec := "sha2Blocks", named := ["livery/sha2.constants"], apart := false, laid := [("livery/sha2.constants", laid_livery_sha2_constants)] }
def Sha2BlocksSaid : Prop := sha2BlocksRow.holds Tryd.pinned (OpenSpec.ofChange sha2BlocksSpec)

/-- ITS FALSE NEIGHBOUR: 'it returns false'. Refute it at one input. -/
def sha2BlocksWrong : ChangeSpec := { name := "sha2Blocks", fn := fun _ => fun
  | [d1, d2] => { results := [.lit (.bool false)], args := [d1, d2] }
  | _ => none }
def Sha2BlocksWrongFalsely : Prop := sha2BlocksRow.holds Tryd.pinned (OpenSpec.ofChange sha2BlocksWrong)

/-- 'liverylaw02.Sha2Sums': WHATEVER THE INPUT: true; the input reads as it did. -/
def sha2SumsSpec : ChangeSpec := { name := "sha2Sums", fn := fun _ => fun
  | [d] => { results := [.lit (.bool true)], args := [d] }
  | _ => none }
def sha2SumsRow : OpenClaim := { program := "ythafhghnciofaaadoor", sum := "d8176d58c0402deb7d6a46416f8ac42cbcd22e3955922894de853dd7e413e6cf", func := "livery/liverylaw02.Sha2Sums", spec := "sha2Sums", named := ["livery/sha2.constants"], apart := false, laid := [("livery/sha2.constants", laid_livery_sha2_constants)] }
def Sha2SumsSaid : Prop := sha2SumsRow.holds Tryd.pinned (OpenSpec.ofChange sha2SumsSpec)

/-- ITS FALSE NEIGHBOUR: 'it returns false'. Refute it at one input. -/
def sha2SumsWrong : ChangeSpec := { name := "sha2Sums", fn := fun _ => fun
  | [d] => { results := [.lit (.bool false)], args := [d] }
  | _ => none }
def Sha2SumsWrongFalsely : Prop := sha2SumsRow.holds Tryd.pinned (OpenSpec.ofChange sha2SumsWrong)

/-- 'liverylaw02.Sha2Hashes': WHATEVER THE INPUT: true; the input reads as it did. -/
def sha2HashesSpec : ChangeSpec := { name := "sha2Hashes", fn := fun _ => fun
  | [d1, d2] => { results := [.lit (.bool true)], args := [d1, d2] }
  | _ => none }
def sha2HashesRow : OpenClaim := { program := "ythafhghnciofaaadoor", sum := "d8176d58c0402deb7d6a46416f8ac42cbcd22e3955922894de853dd7e413e6cf", func := "livery/liverylaw02.Sha2Hashes", spec := "sha2Hashes", named := ["livery/sha2.constants"], apart := false, laid := [("livery/sha2.constants", laid_livery_sha2_constants)] }
def Sha2HashesSaid : Prop := sha2HashesRow.holds Tryd.pinned (OpenSpec.ofChange sha2HashesSpec)

/-- ITS FALSE NEIGHBOUR: 'it returns false'. Refute it at one input. -/
def sha2HashesWrong : ChangeSpec := { name := "sha2Hashes", fn := fun _ => fun
  | [d1, d2] => { results := [.lit (.bool false)], args := [d1, d2] }
  | _ => none }
def Sha2HashesWrongFalsely : Prop := sha2HashesRow.holds Tryd.pinned (OpenSpec.ofChange sha2HashesWrong)

/-- 'liverylaw02.Sha2Keys': WHATEVER THE INPUT: true; the input reads as it did. -/
def sha2KeysSpec : ChangeSpec := { name := "sha2Keys", fn := fun _ => fun
  | [d1, d2, d3] => { results := [.lit (.bool true)], args := [d1, d2, d3] }
  | _ => none }
def sha2KeysRow : OpenClaim := { program := "ythafhghnciofaaadoor", sum := "d8176d58c0402deb7d6a46416f8ac42cbcd22e3955922894de853dd7e413e6cf", func := "livery/liverylaw02.Sha2Keys", spec := "sha2Keys", named := ["livery/sha2.constants"], apart := false, laid := [("livery/sha2.constants", laid_livery_sha2_constants)] }
def Sha2KeysSaid : Prop := sha2KeysRow.holds Tryd.pinned (OpenSpec.ofChange sha2KeysSpec)

/-- ITS FALSE NEIGHBOUR: 'it returns false'. Refute it at one input. -/
def sha2KeysWrong : ChangeSpec := { name := "sha2Keys", fn := fun _ => fun
  | [d1, d2, d3] => { results := [.lit (.bool false)], args := [d1, d2, d3] }
  | _ => none }
def Sha2KeysWrongFalsely : Prop := sha2KeysRow.holds Tryd.pinned (OpenSpec.ofChange sha2KeysWrong)

/-- 'liverylaw02.Sha2Pieces': WHATEVER THE INPUT: true; the input reads as it did. -/
def sha2PiecesSpec : ChangeSpec := { name := "sha2Pieces", fn := fun _ => fun
  | [d1, d2] => { results := [.lit (.bool true)], args := [d1, d2] }
  | _ => none }
def sha2PiecesRow : OpenClaim := { program := "ythafhghnciofaaadoor", sum := "d8176d58c0402deb7d6a46416f8ac42cbcd22e3955922894de853dd7e413e6cf", func := "livery/liverylaw02.Sha2Pieces", spec := "sha2Pieces", named := ["livery/sha2.constants"], apart := false, laid := [("livery/sha2.constants", laid_livery_sha2_constants)] }
def Sha2PiecesSaid : Prop := sha2PiecesRow.holds Tryd.pinned (OpenSpec.ofChange sha2PiecesSpec)

/-- ITS FALSE NEIGHBOUR: 'it returns false'. Refute it at one input. -/
def sha2PiecesWrong : ChangeSpec := { name := "sha2Pieces", fn := fun _ => fun
  | [d1, d2] => { results := [.lit (.bool false)], args := [d1, d2] }
  | _ => none }
def Sha2PiecesWrongFalsely : Prop := sha2PiecesRow.holds Tryd.pinned (OpenSpec.ofChange sha2PiecesWrong)

/-- 'liverylaw02.Sha2Begins': WHATEVER THE INPUT: true; the input reads as it did. -/
def sha2BeginsSpec : ChangeSpec := { name := "sha2Begins", fn := fun _ => fun
  | [d1, d2, d3, d4] => { results := [.lit (.bool true)], args := [d1, d2, d3, d4] }
  | _ => none }
def sha2BeginsRow : OpenClaim := { program := "ythafhghnciofaaadoor", sum := "d8176d58c0402deb7d6a46416f8ac42cbcd22e3955922894de853dd7e413e6cf", func := "livery/liverylaw02.Sha2Begins", spec := "sha2Begins", named := ["livery/sha2.constants"], apart := false, laid := [("livery/sha2.constants", laid_livery_sha2_constants)] }
def Sha2BeginsSaid : Prop := sha2BeginsRow.holds Tryd.pinned (OpenSpec.ofChange sha2BeginsSpec)

/-- ITS FALSE NEIGHBOUR: 'it returns false'. Refute it at one input. -/
def sha2BeginsWrong : ChangeSpec := { name := "sha2Begins", fn := fun _ => fun
  | [d1, d2, d3, d4] => { results := [.lit (.bool false)], args := [d1, d2, d3, d4] }
  | _ => none }
def Sha2BeginsWrongFalsely : Prop := sha2BeginsRow.holds Tryd.pinned (OpenSpec.ofChange sha2BeginsWrong)

/-- 'liverylaw02.Sha2Padded': WHATEVER THE INPUT: true; the input reads as it did. -/
def sha2PaddedSpec : ChangeSpec := { name := "sha2Padded", fn := fun _ => fun
  | [d1, d2, d3] => { results := [.lit (.bool true)], args := [d1, d2, d3] }
  | _ => none }
def sha2PaddedRow : OpenClaim := { program := "ythafhghnciofaaadoor", sum := "d8176d58c0402deb7d6a46416f8ac42cbcd22e3955922894de853dd7e413e6cf", func := "livery/liverylaw02.Sha2Padded", spec := "sha2Padded", named := ["livery/sha2.constants"], apart := false, laid := [("livery/sha2.constants", laid_livery_sha2_constants)] }
def Sha2PaddedSaid : Prop := sha2PaddedRow.holds Tryd.pinned (OpenSpec.ofChange sha2PaddedSpec)

/-- ITS FALSE NEIGHBOUR: 'it returns false'. Refute it at one input. -/
def sha2PaddedWrong : ChangeSpec := { name := "sha2Padded", fn := fun _ => fun
  | [d1, d2, d3] => { results := [.lit (.bool false)], args := [d1, d2, d3] }
  | _ => none }
def Sha2PaddedWrongFalsely : Prop := sha2PaddedRow.holds Tryd.pinned (OpenSpec.ofChange sha2PaddedWrong)

/-- 'liverylaw02.Sha2None': WHATEVER THE INPUT: true; the input reads as it did. -/
def sha2NoneSpec : ChangeSpec := { name := "sha2None", fn := fun _ => fun
  | [d] => { results := [.lit (.bool true)], args := [d] }
  | _ => none }
def sha2NoneRow : OpenClaim := { program := "ythafhghnciofaaadoor", sum := "d8176d58c0402deb7d6a46416f8ac42cbcd22e3955922894de853dd7e413e6cf", func := "livery/liverylaw02.Sha2None", spec := "sha2None", named := ["livery/sha2.constants"], apart := false, laid := [("livery/sha2.constants", laid_livery_sha2_constants)] }
def Sha2NoneSaid : Prop := sha2NoneRow.holds Tryd.pinned (OpenSpec.ofChange sha2NoneSpec)

/-- ITS FALSE NEIGHBOUR: 'it returns false'. Refute it at one input. -/
def sha2NoneWrong : ChangeSpec := { name := "sha2None", fn := fun _ => fun
  | [d] => { results := [.lit (.bool false)], args := [d] }
  | _ => none }
def Sha2NoneWrongFalsely : Prop := sha2NoneRow.holds Tryd.pinned (OpenSpec.ofChange sha2NoneWrong)

/- THE SECOND FORM. 'bulk': how many values and letters a reading holds, each counted each time it is reached (what is shared counts as often as it is met; a slice's spare places count too). A statement '..UptoSaid' is the law's where the arguments, and the package variables that the reading takes, are together of bulk at most 1048576: NARROWER than '..Said'. Prove '..Said' where nothing that the law and all that it calls make is longer than what came in: it says more and counts as full. Else prove '..UptoSaid'. A law counts once. -/
mutual
def uptoBulk {H : Type} : DataW H → Nat
  | .lit (.string bytes) => bytes.length + 1
  | .lit _ => 1
  | .nil => 1
  | .ptr d => uptoBulk d + 1
  | .slice elems spare => uptoBulkAll elems + uptoBulkAll spare + 1
  | .agg parts => uptoBulkAll parts + 1
  | .iface _ d => uptoBulk d + 1
  | .map entries => uptoBulkEntries entries + 1
  | .held _ => 1
def uptoBulkAll {H : Type} : List (DataW H) → Nat
  | [] => 0
  | d :: r => uptoBulk d + uptoBulkAll r
def uptoBulkEntries {H : Type} : List (Lit × DataW H) → Nat
  | [] => 0
  | x :: r => uptoBulkEntry x + uptoBulkEntries r
def uptoBulkEntry {H : Type} : Lit × DataW H → Nat
  | (.string bytes, d) => bytes.length + uptoBulk d + 1
  | (_, d) => uptoBulk d + 1
 end
def uptoSmall : (H : Type) → List (DataW H) → Bool := fun _ ds => decide (uptoBulkAll ds ≤ 1048576)
def OpenSpec.upto (s : _root_.Go.ChangeSpec) : _root_.Go.OpenSpec := { _root_.Go.OpenSpec.ofChange s with cond := some uptoSmall }

/-- 'liverylaw02.Sha2Blocks', WHERE WHAT IT READS IS OF BULK AT MOST 1048576: true; the input reads as it did. -/
def sha2BlocksUptoRow : OpenClaim := { program := "ythafhghnciofaaadoor", sum := "d8176d58c0402deb7d6a46416f8ac42cbcd22e3955922894de853dd7e413e6cf", func := "livery/liverylaw02.Sha2Blocks", spec := "sha2Blocks", named := ["livery/sha2.constants"], apart := false, laid := [("livery/sha2.constants", laid_livery_sha2_constants)], narrowed := true }
def Sha2BlocksUptoSaid : Prop := sha2BlocksUptoRow.holds Tryd.pinned (OpenSpec.upto sha2BlocksSpec)

/-- 'liverylaw02.Sha2Sums', WHERE WHAT IT READS IS OF BULK AT MOST 1048576: true; the input reads as it did. -/
def sha2SumsUptoRow : OpenClaim := { program := "ythafhghnciofaaadoor", sum := "d8176d58c0402deb7d6a46416f8ac42cbcd22e3955922894de853dd7e413e6cf", func := "livery/liverylaw02.Sha2Sums", spec := "sha2Sums", named := ["livery/sha2.constants"], apart := false, laid := [("livery/sha2.constants", laid_livery_sha2_constants)], narrowed := true }
def Sha2SumsUptoSaid : Prop := sha2SumsUptoRow.holds Tryd.pinned (OpenSpec.upto sha2SumsSpec)

/-- 'liverylaw02.Sha2Hashes', WHERE WHAT IT READS IS OF BULK AT MOST 1048576: true; the input reads as it did. -/
def sha2HashesUptoRow : OpenClaim := { program := "ythafhghnciofaaadoor", sum := "d8176d58c0402deb7d6a46416f8ac42cbcd22e3955922894de853dd7e413e6cf", func := "livery/liverylaw02.Sha2Hashes", spec := "sha2Hashes", named := ["livery/sha2.constants"], apart := false, laid := [("livery/sha2.constants", laid_livery_sha2_constants)], narrowed := true }
def Sha2HashesUptoSaid : Prop := sha2HashesUptoRow.holds Tryd.pinned (OpenSpec.upto sha2HashesSpec)

/-- 'liverylaw02.Sha2Keys', WHERE WHAT IT READS IS OF BULK AT MOST 1048576: true; the input reads as it did. -/
def sha2KeysUptoRow : OpenClaim := { program := "ythafhghnciofaaadoor", sum := "d8176d58c0402deb7d6a46416f8ac42cbcd22e3955922894de853dd7e413e6cf", func := "livery/liverylaw02.Sha2Keys", spec := "sha2Keys", named := ["livery/sha2.constants"], apart := false, laid := [("livery/sha2.constants", laid_livery_sha2_constants)], narrowed := true }
def Sha2KeysUptoSaid : Prop := sha2KeysUptoRow.holds Tryd.pinned (OpenSpec.upto sha2KeysSpec)

/-- 'liverylaw02.Sha2Pieces', WHERE WHAT IT READS IS OF BULK AT MOST 1048576: true; the input reads as it did. -/
def sha2PiecesUptoRow : OpenClaim := { program := "ythafhghnciofaaadoor", sum := "d8176d58c0402deb7d6a46416f8ac42cbcd22e3955922894de853dd7e413e6cf", func := "livery/liverylaw02.Sha2Pieces", spec := "sha2Pieces", named := ["livery/sha2.constants"], apart := false, laid := [("livery/sha2.constants", laid_livery_sha2_constants)], narrowed := true }
def Sha2PiecesUptoSaid : Prop := sha2PiecesUptoRow.holds Tryd.pinned (OpenSpec.upto sha2PiecesSpec)

/-- 'liverylaw02.Sha2Begins', WHERE WHAT IT READS IS OF BULK AT MOST 1048576: true; the input reads as it did. -/
def sha2BeginsUptoRow : OpenClaim := { program := "ythafhghnciofaaadoor", sum := "d8176d58c0402deb7d6a46416f8ac42cbcd22e3955922894de853dd7e413e6cf", func := "livery/liverylaw02.Sha2Begins", spec := "sha2Begins", named := ["livery/sha2.constants"], apart := false, laid := [("livery/sha2.constants", laid_livery_sha2_constants)], narrowed := true }
def Sha2BeginsUptoSaid : Prop := sha2BeginsUptoRow.holds Tryd.pinned (OpenSpec.upto sha2BeginsSpec)

/-- 'liverylaw02.Sha2Padded', WHERE WHAT IT READS IS OF BULK AT MOST 1048576: true; the input reads as it did. -/
def sha2PaddedUptoRow : OpenClaim := { program := "ythafhghnciofaaadoor", sum := "d8176d58c0402deb7d6a46416f8ac42cbcd22e3955922894de853dd7e413e6cf", func := "livery/liverylaw02.Sha2Padded", spec := "sha2Padded", named := ["livery/sha2.constants"], apart := false, laid := [("livery/sha2.constants", laid_livery_sha2_constants)], narrowed := true }
def Sha2PaddedUptoSaid : Prop := sha2PaddedUptoRow.holds Tryd.pinned (OpenSpec.upto sha2PaddedSpec)

/-- 'liverylaw02.Sha2None', WHERE WHAT IT READS IS OF BULK AT MOST 1048576: true; the input reads as it did. -/
def sha2NoneUptoRow : OpenClaim := { program := "ythafhghnciofaaadoor", sum := "d8176d58c0402deb7d6a46416f8ac42cbcd22e3955922894de853dd7e413e6cf", func := "livery/liverylaw02.Sha2None", spec := "sha2None", named := ["livery/sha2.constants"], apart := false, laid := [("livery/sha2.constants", laid_livery_sha2_constants)], narrowed := true }
def Sha2NoneUptoSaid : Prop := sha2NoneUptoRow.holds Tryd.pinned (OpenSpec.upto sha2NoneSpec)

end Rows
end Go.Proofs.YthafhghnciofaaaDoor
