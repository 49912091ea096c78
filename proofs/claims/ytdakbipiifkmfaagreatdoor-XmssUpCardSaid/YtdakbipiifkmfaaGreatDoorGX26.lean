import Derived.Test.YtdakbipiifkmfaaGreatDoorGY
/-
 WALK: the document's own Rows.
-/
namespace Go.Proofs.YtdakbipiifkmfaaGreatDoor
open Go.RowKit
set_option maxRecDepth 100000
end Go.Proofs.YtdakbipiifkmfaaGreatDoor
