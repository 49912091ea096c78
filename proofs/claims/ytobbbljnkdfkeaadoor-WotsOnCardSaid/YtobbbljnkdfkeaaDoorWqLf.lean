/-
  THE LAW On, walked.
-/
import Derived.Test.YtobbbljnkdfkeaaDoorWqV
import Derived.Test.YtobbbljnkdfkeaaDoorWq9
namespace Go.Proofs.YtobbbljnkdfkeaaDoor
open Go.RowKit
set_option maxRecDepth 100000
theorem on_law (x : S5) (hw : x.wf) (vs vm vg : Value) (seed m sig : List UInt8) (a : List UInt32) (ha : a.length = 8) (w : World) (hs : Sl w w.heap.size vs seed) (hm : Sl w w.heap.size vm m) (hg : Sl w w.heap.size vg sig) (ht : Tabs w) :
    Calls Tryd.prog 5 #[x.v, vs, vm, vg, adrV a] w (TrueIs w) :=
  wotsOn_of x hw vs vm vg seed m sig a ha w hs hm hg ht live10_any (fun W t h1 h2 h3 => FromSig_any x hw vs vm vg seed m sig a ha W h1 h2 h3 t)
end Go.Proofs.YtobbbljnkdfkeaaDoor
