/-
  THE LAW Below, walked.
-/
import Derived.Test.YtobbbljnkdfkeaaDoorWqV
import Derived.Test.YtobbbljnkdfkeaaDoorWs16
namespace Go.Proofs.YtobbbljnkdfkeaaDoor
open Go.RowKit
set_option maxRecDepth 100000
theorem below_law (x : S5) (hw : x.wf) (vm vo : Value) (m o : List UInt8) (w : World) (hm : Sl w w.heap.size vm m) (ho : Sl w w.heap.size vo o) (ht : Tabs w) :
    Calls Tryd.prog 7 #[x.v, vm, vo] w (TrueIs w) :=
  wotsBelow_of x hw vm vo m o w hm ho ht live10_any (fun vy y W _ h => Digits_any x hw vy y W h)
end Go.Proofs.YtobbbljnkdfkeaaDoor
