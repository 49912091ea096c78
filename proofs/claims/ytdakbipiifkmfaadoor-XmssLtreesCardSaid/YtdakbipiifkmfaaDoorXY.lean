import Derived.Test.YtdakbipiifkmfaaDoorXZ
import Derived.Test.YtdakbipiifkmfaaDoorPZB
/-
 WALKS: the document's own Index.
-/
namespace Go.Proofs.YtdakbipiifkmfaaDoor
open Go.RowKit
set_option maxRecDepth 100000
end Go.Proofs.YtdakbipiifkmfaaDoor

/-
 WALK: the document's own Summed.
-/
namespace Go.Proofs.YtdakbipiifkmfaaDoor
open Go.RowKit
set_option maxRecDepth 100000
end Go.Proofs.YtdakbipiifkmfaaDoor

/-
 WALK: the document's own Came: the root that comes of a signature.
-/
namespace Go.Proofs.YtdakbipiifkmfaaDoor
open Go.RowKit
set_option maxRecDepth 100000
end Go.Proofs.YtdakbipiifkmfaaDoor
