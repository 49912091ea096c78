/-
  No cell of these rows narrows 'for every input' (looked for: loops, veiled, ifaces, maps, wideKeys, modest, calm, conditions, laid).
  DERIVED. THE GIVEN ROWS OF THIS SEAT. 2 by the template 'for every input the law returns true; each argument reads behind the call as it read before'; 0 by the template 'total and deterministic' (their statements: YthahnckjmlcehaaTotals.lean).
  GIVEN WITH THE SEED: the statements are not yours to turn. If you find one false, say at which input.
  Laid BY PROGRAM, IN A SANDBOX (cutbox-rows.mjs): the forced cells as the released guide's own fill.sh prints them over the translation 56cbfcc9f0c18df6… (all of the seat's roots in one cut). By AI agents, Wed Nov 11 2026. No macro, syntax, notation, axiom, sorry.
-/
import Derived.Test.YthahnckjmlcehaaChecked
import GoSem.Claim
import GoSem.ClaimJoined
import GoSem.ClaimMapViews
import Derived.JoinedTies
import Derived.KernelRfl
namespace Go.Proofs.Ythahnckjmlcehaa
/- THE CELL 'sum', in the pinned program and in every row, IS THE sha256 OF THE DUMP (.gsa) THAT YthahnckjmlcehaaProg.lean LOADS. Nothing in Lean hashes anything: it is a label: what it is worth is what the hold of that sum in a sandbox is worth. -/
noncomputable def Try.pinned : Pinned := { name := "ythahnckjmlcehaa", sum := "56cbfcc9f0c18df64f69f8e7d50ea0831be1a8c3cb6b4ab5744bf95e647482da", checked := Try.checked }
namespace Rows
def none {H : Type} : Left H := { results := [], args := [] }

/-- 'liverylaw09.HssMays': WHATEVER THE INPUT: true; the input reads as it did. -/
def hssMaysSpec : ChangeSpec := { name := "hssMays", fn := fun _ => fun
  | [d] => { results := [.lit (.bool true)], args := [d] }
  | _ => none }
def hssMaysRow : OpenClaim := { program := "ythahnckjmlcehaa", sum := "56cbfcc9f0c18df64f69f8e7d50ea0831be1a8c3cb6b4ab5744bf95e647482da", func := "livery/liverylaw09.HssMays", spec := "hssMays", unfollowed := true, recurses := true, apart := false }
def HssMaysSaid : Prop := hssMaysRow.holds Try.pinned (OpenSpec.ofChange hssMaysSpec)

/-- ITS FALSE NEIGHBOUR: 'it returns false'. Refute it at one input. -/
def hssMaysWrong : ChangeSpec := { name := "hssMays", fn := fun _ => fun
  | [d] => { results := [.lit (.bool false)], args := [d] }
  | _ => none }
def HssMaysWrongFalsely : Prop := hssMaysRow.holds Try.pinned (OpenSpec.ofChange hssMaysWrong)

/-- 'liverylaw09.HssApart': WHATEVER THE INPUT: true; the input reads as it did. -/
def hssApartSpec : ChangeSpec := { name := "hssApart", fn := fun _ => fun
  | [d1, d2, d3] => { results := [.lit (.bool true)], args := [d1, d2, d3] }
  | _ => none }
def hssApartRow : OpenClaim := { program := "ythahnckjmlcehaa", sum := "56cbfcc9f0c18df64f69f8e7d50ea0831be1a8c3cb6b4ab5744bf95e647482da", func := "livery/liverylaw09.HssApart", spec := "hssApart", unfollowed := true, recurses := true, apart := false }
def HssApartSaid : Prop := hssApartRow.holds Try.pinned (OpenSpec.ofChange hssApartSpec)

/-- ITS FALSE NEIGHBOUR: 'it returns false'. Refute it at one input. -/
def hssApartWrong : ChangeSpec := { name := "hssApart", fn := fun _ => fun
  | [d1, d2, d3] => { results := [.lit (.bool false)], args := [d1, d2, d3] }
  | _ => none }
def HssApartWrongFalsely : Prop := hssApartRow.holds Try.pinned (OpenSpec.ofChange hssApartWrong)

/- THE SECOND FORM. 'bulk': how many values and letters a reading holds, each counted each time it is reached (what is shared counts as often as it is met; a slice's spare places count too). A statement '..UptoSaid' is the law's where the arguments, and the package variables that the reading takes, are together of bulk at most 1048576: NARROWER than '..Said'. Prove '..Said' where nothing that the law and all that it calls make is longer than what came in: it says more and counts as full. Else prove '..UptoSaid'. A law counts once. -/
mutual
def uptoBulk {H : Type} : DataW H → Nat
  | .lit (.string bytes) => bytes.length + 1
  | .lit _ => 1
  | .nil => 1
  | .ptr d => uptoBulk d + 1
  | .slice elems spare => uptoBulkAll elems + uptoBulkAll spare + 1
  | .agg parts => uptoBulkAll parts + 1
  | .iface _ d => uptoBulk d + 1
  | .map entries => uptoBulkEntries entries + 1
  | .held _ => 1
def uptoBulkAll {H : Type} : List (DataW H) → Nat
  | [] => 0
  | d :: r => uptoBulk d + uptoBulkAll r
def uptoBulkEntries {H : Type} : List (Lit × DataW H) → Nat
  | [] => 0
  | x :: r => uptoBulkEntry x + uptoBulkEntries r
def uptoBulkEntry {H : Type} : Lit × DataW H → Nat
  | (.string bytes, d) => bytes.length + uptoBulk d + 1
  | (_, d) => uptoBulk d + 1
 end
def uptoSmall : (H : Type) → List (DataW H) → Bool := fun _ ds => decide (uptoBulkAll ds ≤ 1048576)
def OpenSpec.upto (s : _root_.Go.ChangeSpec) : _root_.Go.OpenSpec := { _root_.Go.OpenSpec.ofChange s with cond := some uptoSmall }

/-- 'liverylaw09.HssMays', WHERE WHAT IT READS IS OF BULK AT MOST 1048576: true; the input reads as it did. -/
def hssMaysUptoRow : OpenClaim := { program := "ythahnckjmlcehaa", sum := "56cbfcc9f0c18df64f69f8e7d50ea0831be1a8c3cb6b4ab5744bf95e647482da", func := "livery/liverylaw09.HssMays", spec := "hssMays", unfollowed := true, recurses := true, apart := false, narrowed := true }
def HssMaysUptoSaid : Prop := hssMaysUptoRow.holds Try.pinned (OpenSpec.upto hssMaysSpec)

/-- 'liverylaw09.HssApart', WHERE WHAT IT READS IS OF BULK AT MOST 1048576: true; the input reads as it did. -/
def hssApartUptoRow : OpenClaim := { program := "ythahnckjmlcehaa", sum := "56cbfcc9f0c18df64f69f8e7d50ea0831be1a8c3cb6b4ab5744bf95e647482da", func := "livery/liverylaw09.HssApart", spec := "hssApart", unfollowed := true, recurses := true, apart := false, narrowed := true }
def HssApartUptoSaid : Prop := hssApartUptoRow.holds Try.pinned (OpenSpec.upto hssApartSpec)

end Rows
end Go.Proofs.Ythahnckjmlcehaa
