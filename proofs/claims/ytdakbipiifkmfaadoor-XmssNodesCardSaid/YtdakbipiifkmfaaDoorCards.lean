/-
  DERIVED. GIVEN WITH THE SEED: THE CARDS: each row of YtdakbipiifkmfaaDoorRows.lean that lists a variable, with what it lists TIED to the program's text (the seventh form; the later family's looks); each row that meets fmt, with fmt's text TOLD by the authors' own Lean function (tested against real Go, not proved from fmt's source: count such statements apart). THE CARD IS WHAT COUNTS. Prove the row's statement (the work); the ties are given (YtdakbipiifkmfaaDoorTie.lean); close each card by the builder's one call (the guide's Derived/Test/ToyasCard.lean, 'card_holds'). Laid BY PROGRAM, IN A SANDBOX (cutbox-door.mjs). By AI agents, Wed Nov 11 2026. No macro, syntax, notation, axiom, sorry.
-/
import Derived.Test.YtdakbipiifkmfaaDoorRows
import GoSem.ClaimSeven
namespace Go.Proofs.YtdakbipiifkmfaaDoor
namespace Rows

/-- THE TIED CARD OF 'liverylaw11.XmssNodes'. -/
def xmssNodesCard : Claim7 := { stood := { row := xmssNodesRow, standIns := [], harness := (true, "db2b6fccfeee0c80a85256dac51f1edf1139cc676f73706c3a2753c2738248e4"), looks := false }, kinds := [], alts := [], laidByText := true, laidKinds := [.data, .data], laidTests := true, laidLooks := .later }
def XmssNodesCardSaid : Prop := Claim7.holds Tryd.pinned (.plain (OpenSpec.ofChange xmssNodesSpec)) xmssNodesCard

/-- THE TIED CARD OF 'liverylaw11.XmssLtrees'. -/
def xmssLtreesCard : Claim7 := { stood := { row := xmssLtreesRow, standIns := [], harness := (true, "db2b6fccfeee0c80a85256dac51f1edf1139cc676f73706c3a2753c2738248e4"), looks := false }, kinds := [], alts := [], laidByText := true, laidKinds := [.data, .data], laidTests := true, laidLooks := .later }
def XmssLtreesCardSaid : Prop := Claim7.holds Tryd.pinned (.plain (OpenSpec.ofChange xmssLtreesSpec)) xmssLtreesCard

/-- THE SECOND FORM's CARD OF 'liverylaw11.XmssNodes'. -/
def xmssNodesUptoCard : Claim7 := { stood := { row := xmssNodesUptoRow, standIns := [], harness := (true, "db2b6fccfeee0c80a85256dac51f1edf1139cc676f73706c3a2753c2738248e4"), looks := false }, kinds := [], alts := [], laidByText := true, laidKinds := [.data, .data], laidTests := true, laidLooks := .later }
def XmssNodesUptoCardSaid : Prop := Claim7.holds Tryd.pinned (.plain (OpenSpec.upto xmssNodesSpec)) xmssNodesUptoCard

/-- THE SECOND FORM's CARD OF 'liverylaw11.XmssLtrees'. -/
def xmssLtreesUptoCard : Claim7 := { stood := { row := xmssLtreesUptoRow, standIns := [], harness := (true, "db2b6fccfeee0c80a85256dac51f1edf1139cc676f73706c3a2753c2738248e4"), looks := false }, kinds := [], alts := [], laidByText := true, laidKinds := [.data, .data], laidTests := true, laidLooks := .later }
def XmssLtreesUptoCardSaid : Prop := Claim7.holds Tryd.pinned (.plain (OpenSpec.upto xmssLtreesSpec)) xmssLtreesUptoCard
end Rows
end Go.Proofs.YtdakbipiifkmfaaDoor
