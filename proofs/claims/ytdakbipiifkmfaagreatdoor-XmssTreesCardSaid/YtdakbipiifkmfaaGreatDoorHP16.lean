import Derived.Test.YtdakbipiifkmfaaGreatDoorHP15
import Derived.Test.YtdakbipiifkmfaaGreatDoorHY
import Derived.Test.YtdakbipiifkmfaaGreatDoorHX26
/-
 THE LAW of trees over the program's own functions.
-/
namespace Go.Proofs.YtdakbipiifkmfaaGreatDoor
open Go.RowKit
set_option maxRecDepth 100000
theorem trees_law (c : Nat) (hc : c < 4294967296) (vs vp vb : Value) (sd pf pb : List UInt8) (i : Nat) (hi : i < 4294967296) (w : World) (hs : Sl w w.heap.size vs sd) (hp : Sl w w.heap.size vp pf) (hb : Sl w w.heap.size vb pb) (ht : Tabs w) :
  Calls Tryz.prog 4 #[.int .u32 (c : Int), keyV vs vp vb, .int .u32 (i : Int)] w (TrueIs w) :=
 xmssTrees_of (Tb := Tabs) c hc vs vp vb sd pf pb i hi w hs hp hb ht (fun _ _ h b => h.go b) live11_any (fun x vs vp vb sd pf pb W h1 _ h3 h4 h5 h6 => Root_any x vs vp vb sd pf pb W h1 h3 h4 h5 h6) (fun x vs vp vb sd pf pb i W h1 _ h2 h3 h4 h5 h6 => Path_any x vs vp vb sd pf pb i W h1 h2 h3 h4 h5 h6) (fun x vs vp vb sd pf pb W h1 _ h3 h4 h5 h6 => Public11_any x vs vp vb sd pf pb W h1 h3 h4 h5 h6) (fun x vs vp vb sd pf pb W h1 h2 h3 h4 h5 => refRows11_any x vs vp vb sd pf pb W h1 h2 h3 h4 h5)
end Go.Proofs.YtdakbipiifkmfaaGreatDoor
