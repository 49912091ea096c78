/-
  THE LAW Digits, walked.
-/
import Derived.Test.YtobbbljnkdfkeaaDoorWqV
import Derived.Test.YtobbbljnkdfkeaaDoorWs15
namespace Go.Proofs.YtobbbljnkdfkeaaDoor
open Go.RowKit
set_option maxRecDepth 100000
theorem digits_law (x : S5) (hw : x.wf) (vm : Value) (m : List UInt8) (w : World) (hm : Sl w w.heap.size vm m) (ht : Tabs w) :
    Calls Tryd.prog 4 #[x.v, vm] w (TrueIs w) :=
  wotsDigits_of x hw vm m w hm ht live10_any (fun W _ h => Digits_any x hw vm m W h)
end Go.Proofs.YtobbbljnkdfkeaaDoor
