/-
  THE LAW Steps, walked.
-/
import Derived.Test.YtobbbljnkdfkeaaDoorWqV
import Derived.Test.YtobbbljnkdfkeaaDoorWs14
namespace Go.Proofs.YtobbbljnkdfkeaaDoor
open Go.RowKit
set_option maxRecDepth 100000
theorem steps_law (x : S5) (hw : x.wf) (vb vs : Value) (b seed : List UInt8) (f0 s0 m0 : UInt8) (a : List UInt32) (ha : a.length = 8) (w : World) (hb : Sl w w.heap.size vb b) (hs : Sl w w.heap.size vs seed) (ht : Tabs w) :
    Calls Tryd.prog 6 #[x.v, vb, .int .u8 (f0.toNat : Int), .int .u8 (s0.toNat : Int), .int .u8 (m0.toNat : Int), vs, adrV a] w (TrueIs w) :=
  wotsSteps_of x hw vb vs b seed f0 s0 m0 a ha w hb hs ht live10_any (fun vb' b' f n W hfn t h1 h2 => (Chain_any x hw vb' vs b' seed a ha f n hfn W h1 h2 t).mono fun _ _ h => h.res)
end Go.Proofs.YtobbbljnkdfkeaaDoor
