import Derived.Test.YtdakbipiifkmfaaGreatDoorHZ
/-
 THE LAWS OF CHAPTER 11: XmssUp, over contracts of the program's own functions.
-/
namespace Go.Proofs.YtdakbipiifkmfaaGreatDoor
open Go.RowKit
set_option maxRecDepth 100000
section
variable {Tb : World → Prop}
end
end Go.Proofs.YtdakbipiifkmfaaGreatDoor
