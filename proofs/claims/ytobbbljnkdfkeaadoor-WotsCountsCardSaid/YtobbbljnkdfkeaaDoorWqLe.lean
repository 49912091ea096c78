/-
  THE LAW Counts, walked.
-/
import Derived.Test.YtobbbljnkdfkeaaDoorWqV
import Derived.Test.YtobbbljnkdfkeaaDoorWs19
namespace Go.Proofs.YtobbbljnkdfkeaaDoor
open Go.RowKit
set_option maxRecDepth 100000
theorem counts_law (x : S5) (hw : x.wf) (vk vs : Value) (sk seed : List UInt8) (a o : List UInt32) (ha : a.length = 8) (ho : o.length = 8) (w : World) (hk : Sl w w.heap.size vk sk) (hs : Sl w w.heap.size vs seed) (ht : Tabs w) :
    Calls Tryd.prog 8 #[x.v, vk, vs, adrV a, adrV o] w (TrueIs w) :=
  wotsCounts_of x hw vk vs sk seed a o ha ho w hk hs ht live10_any
    (fun a' W ha' t h1 h2 => (Chain_any x hw vk vs sk seed a' ha' 2 1 (by decide) W h1 h2 t).mono fun _ _ h => h.off)
    (fun a' W ha' t h1 h2 => (Secret_any x hw vk vs sk seed a' ha' 1 (by decide) W h1 h2 t).mono fun _ _ h => h.res)
end Go.Proofs.YtobbbljnkdfkeaaDoor
