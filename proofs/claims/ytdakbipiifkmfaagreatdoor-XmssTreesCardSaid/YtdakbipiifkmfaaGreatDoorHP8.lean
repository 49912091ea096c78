import Derived.Test.YtdakbipiifkmfaaGreatDoorHP5
import Derived.Test.YtdakbipiifkmfaaGreatDoorHX
/-
 THE PROGRAM'S OWN Tree where there is none; the laws' own live; XmssNone.
-/
namespace Go.Proofs.YtdakbipiifkmfaaGreatDoor
open Go.RowKit
set_option maxRecDepth 100000
theorem live11_any (w : World) (ht : Tabs w) : Calls Tryz.prog 14 #[] w (TrueIs w) :=
 live11_of (Tb := Tabs) (fun _ _ h b => h.go b) (fun x vs vl vr seed l r a W h1 h2 h3 h4 h5 h6 => Node_any x vs vl vr seed l r a W h1 h2 h3 h4 h5 h6) w ht
end Go.Proofs.YtdakbipiifkmfaaGreatDoor
