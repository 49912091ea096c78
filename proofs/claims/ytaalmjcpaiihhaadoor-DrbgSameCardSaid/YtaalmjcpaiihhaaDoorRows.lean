/-
  NARROWER THAN 'FOR EVERY INPUT', by the rows' own cells (each row's printed sentence says how): SealKeys: laid · SealSeals: laid · SealOpens: laid · SealBack: laid · SealTags: laid · SealBits: laid · DrbgDoes: laid · DrbgFull: laid · DrbgSame: laid · DrbgParts: laid · DrbgNone: laid.
  DERIVED. THE GIVEN ROWS OF THIS SEAT. 11 by the template 'for every input the law returns true; each argument reads behind the call as it read before'; 0 by the template 'total and deterministic' (their statements: YtaalmjcpaiihhaaDoorTotals.lean).
  GIVEN WITH THE SEED: the statements are not yours to turn. If you find one false, say at which input.
  Laid BY PROGRAM, IN A SANDBOX (cutbox-rows.mjs): the forced cells as the released guide's own fill.sh prints them over the translation b761f6ce1c678b33… (all of the seat's roots in one cut). By AI agents, Wed Nov 11 2026. No macro, syntax, notation, axiom, sorry.
-/
import Derived.Test.YtaalmjcpaiihhaaDoorChecked
import GoSem.Claim
import GoSem.ClaimJoined
import GoSem.ClaimMapViews
import Derived.JoinedTies
import Derived.KernelRfl
namespace Go.Proofs.YtaalmjcpaiihhaaDoor
/- THE CELL 'sum', in the pinned program and in every row, IS THE sha256 OF THE DUMP (.gsa) THAT YtaalmjcpaiihhaaDoorProg.lean LOADS. Nothing in Lean hashes anything: it is a label: what it is worth is what the hold of that sum in a sandbox is worth. -/
noncomputable def Tryd.pinned : Pinned := { name := "ytaalmjcpaiihhaadoor", sum := "b761f6ce1c678b33fd72ea5ef19f6206c3a210aee8304f442f9f37a270e00a03", checked := Tryd.checked }
namespace Rows
def none {H : Type} : Left H := { results := [], args := [] }

/- WHAT THE LISTED PACKAGE-LEVEL VARIABLES READ AS WHEN THE CALL BEGINS. Each datum BY PROGRAM (the guide's laid-datum.mjs) off the statement by which the dump's own 'gosem.cut.vars' lays the variable. In a bare row this is a premise. The card (YtaalmjcpaiihhaaDoorCards.lean) ties it to the program's text. -/
def laid_livery_sha2_constants {H : Type} : DataW H := .agg [.lit (.int .u32 1116352408), .lit (.int .u32 1899447441), .lit (.int .u32 3049323471), .lit (.int .u32 3921009573), .lit (.int .u32 961987163), .lit (.int .u32 1508970993), .lit (.int .u32 2453635748), .lit (.int .u32 2870763221), .lit (.int .u32 3624381080), .lit (.int .u32 310598401), .lit (.int .u32 607225278), .lit (.int .u32 1426881987), .lit (.int .u32 1925078388), .lit (.int .u32 2162078206), .lit (.int .u32 2614888103), .lit (.int .u32 3248222580), .lit (.int .u32 3835390401), .lit (.int .u32 4022224774), .lit (.int .u32 264347078), .lit (.int .u32 604807628), .lit (.int .u32 770255983), .lit (.int .u32 1249150122), .lit (.int .u32 1555081692), .lit (.int .u32 1996064986), .lit (.int .u32 2554220882), .lit (.int .u32 2821834349), .lit (.int .u32 2952996808), .lit (.int .u32 3210313671), .lit (.int .u32 3336571891), .lit (.int .u32 3584528711), .lit (.int .u32 113926993), .lit (.int .u32 338241895), .lit (.int .u32 666307205), .lit (.int .u32 773529912), .lit (.int .u32 1294757372), .lit (.int .u32 1396182291), .lit (.int .u32 1695183700), .lit (.int .u32 1986661051), .lit (.int .u32 2177026350), .lit (.int .u32 2456956037), .lit (.int .u32 2730485921), .lit (.int .u32 2820302411), .lit (.int .u32 3259730800), .lit (.int .u32 3345764771), .lit (.int .u32 3516065817), .lit (.int .u32 3600352804), .lit (.int .u32 4094571909), .lit (.int .u32 275423344), .lit (.int .u32 430227734), .lit (.int .u32 506948616), .lit (.int .u32 659060556), .lit (.int .u32 883997877), .lit (.int .u32 958139571), .lit (.int .u32 1322822218), .lit (.int .u32 1537002063), .lit (.int .u32 1747873779), .lit (.int .u32 1955562222), .lit (.int .u32 2024104815), .lit (.int .u32 2227730452), .lit (.int .u32 2361852424), .lit (.int .u32 2428436474), .lit (.int .u32 2756734187), .lit (.int .u32 3204031479), .lit (.int .u32 3329325298)]

/-- 'liverylaw04.SealKeys': WHATEVER THE INPUT: true; the input reads as it did. -/
def sealKeysSpec : ChangeSpec := { name := "sealKeys", fn := fun _ => fun
  | [d1, d2, d3, d4, d5] => { results := [.lit (.bool true)], args := [d1, d2, d3, d4, d5] }
  | _ => none }
def sealKeysRow : OpenClaim := { program := "ytaalmjcpaiihhaadoor", sum := "b761f6ce1c678b33fd72ea5ef19f6206c3a210aee8304f442f9f37a270e00a03", func := "livery/liverylaw04.SealKeys", spec := "sealKeys", named := ["livery/sha2.constants"], apart := false, laid := [("livery/sha2.constants", laid_livery_sha2_constants)] }
def SealKeysSaid : Prop := sealKeysRow.holds Tryd.pinned (OpenSpec.ofChange sealKeysSpec)

/-- ITS FALSE NEIGHBOUR: 'it returns false'. Refute it at one input. -/
def sealKeysWrong : ChangeSpec := { name := "sealKeys", fn := fun _ => fun
  | [d1, d2, d3, d4, d5] => { results := [.lit (.bool false)], args := [d1, d2, d3, d4, d5] }
  | _ => none }
def SealKeysWrongFalsely : Prop := sealKeysRow.holds Tryd.pinned (OpenSpec.ofChange sealKeysWrong)

/-- 'liverylaw04.SealSeals': WHATEVER THE INPUT: true; the input reads as it did. -/
def sealSealsSpec : ChangeSpec := { name := "sealSeals", fn := fun _ => fun
  | [d1, d2, d3, d4] => { results := [.lit (.bool true)], args := [d1, d2, d3, d4] }
  | _ => none }
def sealSealsRow : OpenClaim := { program := "ytaalmjcpaiihhaadoor", sum := "b761f6ce1c678b33fd72ea5ef19f6206c3a210aee8304f442f9f37a270e00a03", func := "livery/liverylaw04.SealSeals", spec := "sealSeals", named := ["livery/sha2.constants"], apart := false, laid := [("livery/sha2.constants", laid_livery_sha2_constants)] }
def SealSealsSaid : Prop := sealSealsRow.holds Tryd.pinned (OpenSpec.ofChange sealSealsSpec)

/-- ITS FALSE NEIGHBOUR: 'it returns false'. Refute it at one input. -/
def sealSealsWrong : ChangeSpec := { name := "sealSeals", fn := fun _ => fun
  | [d1, d2, d3, d4] => { results := [.lit (.bool false)], args := [d1, d2, d3, d4] }
  | _ => none }
def SealSealsWrongFalsely : Prop := sealSealsRow.holds Tryd.pinned (OpenSpec.ofChange sealSealsWrong)

/-- 'liverylaw04.SealOpens': WHATEVER THE INPUT: true; the input reads as it did. -/
def sealOpensSpec : ChangeSpec := { name := "sealOpens", fn := fun _ => fun
  | [d1, d2, d3, d4] => { results := [.lit (.bool true)], args := [d1, d2, d3, d4] }
  | _ => none }
def sealOpensRow : OpenClaim := { program := "ytaalmjcpaiihhaadoor", sum := "b761f6ce1c678b33fd72ea5ef19f6206c3a210aee8304f442f9f37a270e00a03", func := "livery/liverylaw04.SealOpens", spec := "sealOpens", named := ["livery/sha2.constants"], apart := false, laid := [("livery/sha2.constants", laid_livery_sha2_constants)] }
def SealOpensSaid : Prop := sealOpensRow.holds Tryd.pinned (OpenSpec.ofChange sealOpensSpec)

/-- ITS FALSE NEIGHBOUR: 'it returns false'. Refute it at one input. -/
def sealOpensWrong : ChangeSpec := { name := "sealOpens", fn := fun _ => fun
  | [d1, d2, d3, d4] => { results := [.lit (.bool false)], args := [d1, d2, d3, d4] }
  | _ => none }
def SealOpensWrongFalsely : Prop := sealOpensRow.holds Tryd.pinned (OpenSpec.ofChange sealOpensWrong)

/-- 'liverylaw04.SealBack': WHATEVER THE INPUT: true; the input reads as it did. -/
def sealBackSpec : ChangeSpec := { name := "sealBack", fn := fun _ => fun
  | [d1, d2, d3, d4] => { results := [.lit (.bool true)], args := [d1, d2, d3, d4] }
  | _ => none }
def sealBackRow : OpenClaim := { program := "ytaalmjcpaiihhaadoor", sum := "b761f6ce1c678b33fd72ea5ef19f6206c3a210aee8304f442f9f37a270e00a03", func := "livery/liverylaw04.SealBack", spec := "sealBack", named := ["livery/sha2.constants"], apart := false, laid := [("livery/sha2.constants", laid_livery_sha2_constants)] }
def SealBackSaid : Prop := sealBackRow.holds Tryd.pinned (OpenSpec.ofChange sealBackSpec)

/-- ITS FALSE NEIGHBOUR: 'it returns false'. Refute it at one input. -/
def sealBackWrong : ChangeSpec := { name := "sealBack", fn := fun _ => fun
  | [d1, d2, d3, d4] => { results := [.lit (.bool false)], args := [d1, d2, d3, d4] }
  | _ => none }
def SealBackWrongFalsely : Prop := sealBackRow.holds Tryd.pinned (OpenSpec.ofChange sealBackWrong)

/-- 'liverylaw04.SealTags': WHATEVER THE INPUT: true; the input reads as it did. -/
def sealTagsSpec : ChangeSpec := { name := "sealTags", fn := fun _ => fun
  | [d1, d2, d3, d4, d5] => { results := [.lit (.bool true)], args := [d1, d2, d3, d4, d5] }
  | _ => none }
def sealTagsRow : OpenClaim := { program := "ytaalmjcpaiihhaadoor", sum := "b761f6ce1c678b33fd72ea5ef19f6206c3a210aee8304f442f9f37a270e00a03", func := "livery/liverylaw04.SealTags", spec := "sealTags", named := ["livery/sha2.constants"], apart := false, laid := [("livery/sha2.constants", laid_livery_sha2_constants)] }
def SealTagsSaid : Prop := sealTagsRow.holds Tryd.pinned (OpenSpec.ofChange sealTagsSpec)

/-- ITS FALSE NEIGHBOUR: 'it returns false'. Refute it at one input. -/
def sealTagsWrong : ChangeSpec := { name := "sealTags", fn := fun _ => fun
  | [d1, d2, d3, d4, d5] => { results := [.lit (.bool false)], args := [d1, d2, d3, d4, d5] }
  | _ => none }
def SealTagsWrongFalsely : Prop := sealTagsRow.holds Tryd.pinned (OpenSpec.ofChange sealTagsWrong)

/-- 'liverylaw04.SealBits': WHATEVER THE INPUT: true; the input reads as it did. -/
def sealBitsSpec : ChangeSpec := { name := "sealBits", fn := fun _ => fun
  | [d1, d2, d3, d4, d5] => { results := [.lit (.bool true)], args := [d1, d2, d3, d4, d5] }
  | _ => none }
def sealBitsRow : OpenClaim := { program := "ytaalmjcpaiihhaadoor", sum := "b761f6ce1c678b33fd72ea5ef19f6206c3a210aee8304f442f9f37a270e00a03", func := "livery/liverylaw04.SealBits", spec := "sealBits", named := ["livery/sha2.constants"], apart := false, laid := [("livery/sha2.constants", laid_livery_sha2_constants)] }
def SealBitsSaid : Prop := sealBitsRow.holds Tryd.pinned (OpenSpec.ofChange sealBitsSpec)

/-- ITS FALSE NEIGHBOUR: 'it returns false'. Refute it at one input. -/
def sealBitsWrong : ChangeSpec := { name := "sealBits", fn := fun _ => fun
  | [d1, d2, d3, d4, d5] => { results := [.lit (.bool false)], args := [d1, d2, d3, d4, d5] }
  | _ => none }
def SealBitsWrongFalsely : Prop := sealBitsRow.holds Tryd.pinned (OpenSpec.ofChange sealBitsWrong)

/-- 'liverylaw05.DrbgDoes': WHATEVER THE INPUT: true; the input reads as it did. -/
def drbgDoesSpec : ChangeSpec := { name := "drbgDoes", fn := fun _ => fun
  | [d1, d2, d3, d4] => { results := [.lit (.bool true)], args := [d1, d2, d3, d4] }
  | _ => none }
def drbgDoesRow : OpenClaim := { program := "ytaalmjcpaiihhaadoor", sum := "b761f6ce1c678b33fd72ea5ef19f6206c3a210aee8304f442f9f37a270e00a03", func := "livery/liverylaw05.DrbgDoes", spec := "drbgDoes", unfollowed := true, recurses := true, named := ["livery/sha2.constants"], apart := false, laid := [("livery/sha2.constants", laid_livery_sha2_constants)] }
def DrbgDoesSaid : Prop := drbgDoesRow.holds Tryd.pinned (OpenSpec.ofChange drbgDoesSpec)

/-- ITS FALSE NEIGHBOUR: 'it returns false'. Refute it at one input. -/
def drbgDoesWrong : ChangeSpec := { name := "drbgDoes", fn := fun _ => fun
  | [d1, d2, d3, d4] => { results := [.lit (.bool false)], args := [d1, d2, d3, d4] }
  | _ => none }
def DrbgDoesWrongFalsely : Prop := drbgDoesRow.holds Tryd.pinned (OpenSpec.ofChange drbgDoesWrong)

/-- 'liverylaw05.DrbgFull': WHATEVER THE INPUT: true; the input reads as it did. -/
def drbgFullSpec : ChangeSpec := { name := "drbgFull", fn := fun _ => fun
  | [d1, d2, d3] => { results := [.lit (.bool true)], args := [d1, d2, d3] }
  | _ => none }
def drbgFullRow : OpenClaim := { program := "ytaalmjcpaiihhaadoor", sum := "b761f6ce1c678b33fd72ea5ef19f6206c3a210aee8304f442f9f37a270e00a03", func := "livery/liverylaw05.DrbgFull", spec := "drbgFull", unfollowed := true, recurses := true, named := ["livery/sha2.constants"], apart := false, laid := [("livery/sha2.constants", laid_livery_sha2_constants)] }
def DrbgFullSaid : Prop := drbgFullRow.holds Tryd.pinned (OpenSpec.ofChange drbgFullSpec)

/-- ITS FALSE NEIGHBOUR: 'it returns false'. Refute it at one input. -/
def drbgFullWrong : ChangeSpec := { name := "drbgFull", fn := fun _ => fun
  | [d1, d2, d3] => { results := [.lit (.bool false)], args := [d1, d2, d3] }
  | _ => none }
def DrbgFullWrongFalsely : Prop := drbgFullRow.holds Tryd.pinned (OpenSpec.ofChange drbgFullWrong)

/-- 'liverylaw05.DrbgSame': WHATEVER THE INPUT: true; the input reads as it did. -/
def drbgSameSpec : ChangeSpec := { name := "drbgSame", fn := fun _ => fun
  | [d1, d2, d3, d4] => { results := [.lit (.bool true)], args := [d1, d2, d3, d4] }
  | _ => none }
def drbgSameRow : OpenClaim := { program := "ytaalmjcpaiihhaadoor", sum := "b761f6ce1c678b33fd72ea5ef19f6206c3a210aee8304f442f9f37a270e00a03", func := "livery/liverylaw05.DrbgSame", spec := "drbgSame", unfollowed := true, recurses := true, named := ["livery/sha2.constants"], apart := false, laid := [("livery/sha2.constants", laid_livery_sha2_constants)] }
def DrbgSameSaid : Prop := drbgSameRow.holds Tryd.pinned (OpenSpec.ofChange drbgSameSpec)

/-- ITS FALSE NEIGHBOUR: 'it returns false'. Refute it at one input. -/
def drbgSameWrong : ChangeSpec := { name := "drbgSame", fn := fun _ => fun
  | [d1, d2, d3, d4] => { results := [.lit (.bool false)], args := [d1, d2, d3, d4] }
  | _ => none }
def DrbgSameWrongFalsely : Prop := drbgSameRow.holds Tryd.pinned (OpenSpec.ofChange drbgSameWrong)

/-- 'liverylaw05.DrbgParts': WHATEVER THE INPUT: true; the input reads as it did. -/
def drbgPartsSpec : ChangeSpec := { name := "drbgParts", fn := fun _ => fun
  | [d1, d2, d3, d4] => { results := [.lit (.bool true)], args := [d1, d2, d3, d4] }
  | _ => none }
def drbgPartsRow : OpenClaim := { program := "ytaalmjcpaiihhaadoor", sum := "b761f6ce1c678b33fd72ea5ef19f6206c3a210aee8304f442f9f37a270e00a03", func := "livery/liverylaw05.DrbgParts", spec := "drbgParts", unfollowed := true, recurses := true, named := ["livery/sha2.constants"], apart := false, laid := [("livery/sha2.constants", laid_livery_sha2_constants)] }
def DrbgPartsSaid : Prop := drbgPartsRow.holds Tryd.pinned (OpenSpec.ofChange drbgPartsSpec)

/-- ITS FALSE NEIGHBOUR: 'it returns false'. Refute it at one input. -/
def drbgPartsWrong : ChangeSpec := { name := "drbgParts", fn := fun _ => fun
  | [d1, d2, d3, d4] => { results := [.lit (.bool false)], args := [d1, d2, d3, d4] }
  | _ => none }
def DrbgPartsWrongFalsely : Prop := drbgPartsRow.holds Tryd.pinned (OpenSpec.ofChange drbgPartsWrong)

/-- 'liverylaw05.DrbgNone': WHATEVER THE INPUT: true; the input reads as it did. -/
def drbgNoneSpec : ChangeSpec := { name := "drbgNone", fn := fun _ => fun
  | [d1, d2] => { results := [.lit (.bool true)], args := [d1, d2] }
  | _ => none }
def drbgNoneRow : OpenClaim := { program := "ytaalmjcpaiihhaadoor", sum := "b761f6ce1c678b33fd72ea5ef19f6206c3a210aee8304f442f9f37a270e00a03", func := "livery/liverylaw05.DrbgNone", spec := "drbgNone", unfollowed := true, recurses := true, named := ["livery/sha2.constants"], apart := false, laid := [("livery/sha2.constants", laid_livery_sha2_constants)] }
def DrbgNoneSaid : Prop := drbgNoneRow.holds Tryd.pinned (OpenSpec.ofChange drbgNoneSpec)

/-- ITS FALSE NEIGHBOUR: 'it returns false'. Refute it at one input. -/
def drbgNoneWrong : ChangeSpec := { name := "drbgNone", fn := fun _ => fun
  | [d1, d2] => { results := [.lit (.bool false)], args := [d1, d2] }
  | _ => none }
def DrbgNoneWrongFalsely : Prop := drbgNoneRow.holds Tryd.pinned (OpenSpec.ofChange drbgNoneWrong)

/- THE SECOND FORM. 'bulk': how many values and letters a reading holds, each counted each time it is reached (what is shared counts as often as it is met; a slice's spare places count too). A statement '..UptoSaid' is the law's where the arguments, and the package variables that the reading takes, are together of bulk at most 1048576: NARROWER than '..Said'. Prove '..Said' where nothing that the law and all that it calls make is longer than what came in: it says more and counts as full. Else prove '..UptoSaid'. A law counts once. -/
mutual
def uptoBulk {H : Type} : DataW H → Nat
  | .lit (.string bytes) => bytes.length + 1
  | .lit _ => 1
  | .nil => 1
  | .ptr d => uptoBulk d + 1
  | .slice elems spare => uptoBulkAll elems + uptoBulkAll spare + 1
  | .agg parts => uptoBulkAll parts + 1
  | .iface _ d => uptoBulk d + 1
  | .map entries => uptoBulkEntries entries + 1
  | .held _ => 1
def uptoBulkAll {H : Type} : List (DataW H) → Nat
  | [] => 0
  | d :: r => uptoBulk d + uptoBulkAll r
def uptoBulkEntries {H : Type} : List (Lit × DataW H) → Nat
  | [] => 0
  | x :: r => uptoBulkEntry x + uptoBulkEntries r
def uptoBulkEntry {H : Type} : Lit × DataW H → Nat
  | (.string bytes, d) => bytes.length + uptoBulk d + 1
  | (_, d) => uptoBulk d + 1
 end
def uptoSmall : (H : Type) → List (DataW H) → Bool := fun _ ds => decide (uptoBulkAll ds ≤ 1048576)
def OpenSpec.upto (s : _root_.Go.ChangeSpec) : _root_.Go.OpenSpec := { _root_.Go.OpenSpec.ofChange s with cond := some uptoSmall }

/-- 'liverylaw04.SealKeys', WHERE WHAT IT READS IS OF BULK AT MOST 1048576: true; the input reads as it did. -/
def sealKeysUptoRow : OpenClaim := { program := "ytaalmjcpaiihhaadoor", sum := "b761f6ce1c678b33fd72ea5ef19f6206c3a210aee8304f442f9f37a270e00a03", func := "livery/liverylaw04.SealKeys", spec := "sealKeys", named := ["livery/sha2.constants"], apart := false, laid := [("livery/sha2.constants", laid_livery_sha2_constants)], narrowed := true }
def SealKeysUptoSaid : Prop := sealKeysUptoRow.holds Tryd.pinned (OpenSpec.upto sealKeysSpec)

/-- 'liverylaw04.SealSeals', WHERE WHAT IT READS IS OF BULK AT MOST 1048576: true; the input reads as it did. -/
def sealSealsUptoRow : OpenClaim := { program := "ytaalmjcpaiihhaadoor", sum := "b761f6ce1c678b33fd72ea5ef19f6206c3a210aee8304f442f9f37a270e00a03", func := "livery/liverylaw04.SealSeals", spec := "sealSeals", named := ["livery/sha2.constants"], apart := false, laid := [("livery/sha2.constants", laid_livery_sha2_constants)], narrowed := true }
def SealSealsUptoSaid : Prop := sealSealsUptoRow.holds Tryd.pinned (OpenSpec.upto sealSealsSpec)

/-- 'liverylaw04.SealOpens', WHERE WHAT IT READS IS OF BULK AT MOST 1048576: true; the input reads as it did. -/
def sealOpensUptoRow : OpenClaim := { program := "ytaalmjcpaiihhaadoor", sum := "b761f6ce1c678b33fd72ea5ef19f6206c3a210aee8304f442f9f37a270e00a03", func := "livery/liverylaw04.SealOpens", spec := "sealOpens", named := ["livery/sha2.constants"], apart := false, laid := [("livery/sha2.constants", laid_livery_sha2_constants)], narrowed := true }
def SealOpensUptoSaid : Prop := sealOpensUptoRow.holds Tryd.pinned (OpenSpec.upto sealOpensSpec)

/-- 'liverylaw04.SealBack', WHERE WHAT IT READS IS OF BULK AT MOST 1048576: true; the input reads as it did. -/
def sealBackUptoRow : OpenClaim := { program := "ytaalmjcpaiihhaadoor", sum := "b761f6ce1c678b33fd72ea5ef19f6206c3a210aee8304f442f9f37a270e00a03", func := "livery/liverylaw04.SealBack", spec := "sealBack", named := ["livery/sha2.constants"], apart := false, laid := [("livery/sha2.constants", laid_livery_sha2_constants)], narrowed := true }
def SealBackUptoSaid : Prop := sealBackUptoRow.holds Tryd.pinned (OpenSpec.upto sealBackSpec)

/-- 'liverylaw04.SealTags', WHERE WHAT IT READS IS OF BULK AT MOST 1048576: true; the input reads as it did. -/
def sealTagsUptoRow : OpenClaim := { program := "ytaalmjcpaiihhaadoor", sum := "b761f6ce1c678b33fd72ea5ef19f6206c3a210aee8304f442f9f37a270e00a03", func := "livery/liverylaw04.SealTags", spec := "sealTags", named := ["livery/sha2.constants"], apart := false, laid := [("livery/sha2.constants", laid_livery_sha2_constants)], narrowed := true }
def SealTagsUptoSaid : Prop := sealTagsUptoRow.holds Tryd.pinned (OpenSpec.upto sealTagsSpec)

/-- 'liverylaw04.SealBits', WHERE WHAT IT READS IS OF BULK AT MOST 1048576: true; the input reads as it did. -/
def sealBitsUptoRow : OpenClaim := { program := "ytaalmjcpaiihhaadoor", sum := "b761f6ce1c678b33fd72ea5ef19f6206c3a210aee8304f442f9f37a270e00a03", func := "livery/liverylaw04.SealBits", spec := "sealBits", named := ["livery/sha2.constants"], apart := false, laid := [("livery/sha2.constants", laid_livery_sha2_constants)], narrowed := true }
def SealBitsUptoSaid : Prop := sealBitsUptoRow.holds Tryd.pinned (OpenSpec.upto sealBitsSpec)

/-- 'liverylaw05.DrbgDoes', WHERE WHAT IT READS IS OF BULK AT MOST 1048576: true; the input reads as it did. -/
def drbgDoesUptoRow : OpenClaim := { program := "ytaalmjcpaiihhaadoor", sum := "b761f6ce1c678b33fd72ea5ef19f6206c3a210aee8304f442f9f37a270e00a03", func := "livery/liverylaw05.DrbgDoes", spec := "drbgDoes", unfollowed := true, recurses := true, named := ["livery/sha2.constants"], apart := false, laid := [("livery/sha2.constants", laid_livery_sha2_constants)], narrowed := true }
def DrbgDoesUptoSaid : Prop := drbgDoesUptoRow.holds Tryd.pinned (OpenSpec.upto drbgDoesSpec)

/-- 'liverylaw05.DrbgFull', WHERE WHAT IT READS IS OF BULK AT MOST 1048576: true; the input reads as it did. -/
def drbgFullUptoRow : OpenClaim := { program := "ytaalmjcpaiihhaadoor", sum := "b761f6ce1c678b33fd72ea5ef19f6206c3a210aee8304f442f9f37a270e00a03", func := "livery/liverylaw05.DrbgFull", spec := "drbgFull", unfollowed := true, recurses := true, named := ["livery/sha2.constants"], apart := false, laid := [("livery/sha2.constants", laid_livery_sha2_constants)], narrowed := true }
def DrbgFullUptoSaid : Prop := drbgFullUptoRow.holds Tryd.pinned (OpenSpec.upto drbgFullSpec)

/-- 'liverylaw05.DrbgSame', WHERE WHAT IT READS IS OF BULK AT MOST 1048576: true; the input reads as it did. -/
def drbgSameUptoRow : OpenClaim := { program := "ytaalmjcpaiihhaadoor", sum := "b761f6ce1c678b33fd72ea5ef19f6206c3a210aee8304f442f9f37a270e00a03", func := "livery/liverylaw05.DrbgSame", spec := "drbgSame", unfollowed := true, recurses := true, named := ["livery/sha2.constants"], apart := false, laid := [("livery/sha2.constants", laid_livery_sha2_constants)], narrowed := true }
def DrbgSameUptoSaid : Prop := drbgSameUptoRow.holds Tryd.pinned (OpenSpec.upto drbgSameSpec)

/-- 'liverylaw05.DrbgParts', WHERE WHAT IT READS IS OF BULK AT MOST 1048576: true; the input reads as it did. -/
def drbgPartsUptoRow : OpenClaim := { program := "ytaalmjcpaiihhaadoor", sum := "b761f6ce1c678b33fd72ea5ef19f6206c3a210aee8304f442f9f37a270e00a03", func := "livery/liverylaw05.DrbgParts", spec := "drbgParts", unfollowed := true, recurses := true, named := ["livery/sha2.constants"], apart := false, laid := [("livery/sha2.constants", laid_livery_sha2_constants)], narrowed := true }
def DrbgPartsUptoSaid : Prop := drbgPartsUptoRow.holds Tryd.pinned (OpenSpec.upto drbgPartsSpec)

/-- 'liverylaw05.DrbgNone', WHERE WHAT IT READS IS OF BULK AT MOST 1048576: true; the input reads as it did. -/
def drbgNoneUptoRow : OpenClaim := { program := "ytaalmjcpaiihhaadoor", sum := "b761f6ce1c678b33fd72ea5ef19f6206c3a210aee8304f442f9f37a270e00a03", func := "livery/liverylaw05.DrbgNone", spec := "drbgNone", unfollowed := true, recurses := true, named := ["livery/sha2.constants"], apart := false, laid := [("livery/sha2.constants", laid_livery_sha2_constants)], narrowed := true }
def DrbgNoneUptoSaid : Prop := drbgNoneUptoRow.holds Tryd.pinned (OpenSpec.upto drbgNoneSpec)

end Rows
end Go.Proofs.YtaalmjcpaiihhaaDoor
