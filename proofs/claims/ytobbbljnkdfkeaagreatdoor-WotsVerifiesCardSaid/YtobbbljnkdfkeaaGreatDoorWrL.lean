/-
  THE LAWS Public, Signs, Verifies, walked.
-/
import Derived.Test.YtobbbljnkdfkeaaGreatDoorWqV
import Derived.Test.YtobbbljnkdfkeaaGreatDoorWr3
import Derived.Test.YtobbbljnkdfkeaaGreatDoorWs20z
namespace Go.Proofs.YtobbbljnkdfkeaaGreatDoor
open Go.RowKit
set_option maxRecDepth 100000
theorem public_law (x : S5) (hw : x.wf) (vk vs : Value) (sk seed : List UInt8) (a : List UInt32) (ha : a.length = 8) (w : World) (hk : Sl w w.heap.size vk sk) (hs : Sl w w.heap.size vs seed) (ht : Tabs w) :
    Calls Tryz.prog 3 #[x.v, vk, vs, adrV a] w (TrueIs w) :=
  wotsPublic_of x hw vk vs sk seed a ha w hk hs ht live10_any (fun W t h1 h2 => Public_any x hw vk vs sk seed a ha W h1 h2 t)
theorem signs_law (x : S5) (hw : x.wf) (vk vs vm : Value) (sk seed m : List UInt8) (a : List UInt32) (ha : a.length = 8) (w : World) (hk : Sl w w.heap.size vk sk) (hs : Sl w w.heap.size vs seed) (hm : Sl w w.heap.size vm m) (ht : Tabs w) :
    Calls Tryz.prog 4 #[x.v, vk, vs, vm, adrV a] w (TrueIs w) :=
  wotsSigns_of x hw vk vs vm sk seed m a ha w hk hs hm ht live10_any (fun W t h1 h2 h3 => Sign_any x hw vk vs vm sk seed m a ha W h1 h2 h3 t)
theorem verifies_law (x : S5) (hw : x.wf) (vk vs vm : Value) (sk seed m : List UInt8) (a : List UInt32) (ha : a.length = 8) (w : World) (hk : Sl w w.heap.size vk sk) (hs : Sl w w.heap.size vs seed) (hm : Sl w w.heap.size vm m) (ht : Tabs w) :
    Calls Tryz.prog 5 #[x.v, vk, vs, vm, adrV a] w (TrueIs w) :=
  wotsVerifies_of x hw vk vs vm sk seed m a ha w hk hs hm ht live10_any (fun W t h1 h2 h3 => Sign_any x hw vk vs vm sk seed m a ha W h1 h2 h3 t) (fun W t h1 h2 => Public_any x hw vk vs sk seed a ha W h1 h2 t) (fun vg sig W t h1 h2 h3 => FromSig_any x hw vs vm vg seed m sig a ha W h1 h2 h3 t)
end Go.Proofs.YtobbbljnkdfkeaaGreatDoor
