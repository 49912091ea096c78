/-
 ARGUMENTS OPENED: a key of three slices of bytes, by value.
-/
import Derived.Test.YtdakbipiifkmfaaDoorWY
import Derived.Test.YtdakbipiifkmfaaDoorXZ
import Derived.Deep.Slices
import Derived.Deep.SlicePairs
namespace Go.Proofs.YtdakbipiifkmfaaDoor
open Go.ChangeShapes Go.WideShapes Go.ChangeAt Go.RowKit
set_option maxRecDepth 100000
end Go.Proofs.YtdakbipiifkmfaaDoor
