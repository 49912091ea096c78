import Derived.Test.YtdakbipiifkmfaaGreatDoorHY
import Derived.Test.YtdakbipiifkmfaaGreatDoorHX26
/-
 What was signed is proved, as mathematics: chains go on to their ends, a path leads to the root.
-/
namespace Go.Proofs.YtdakbipiifkmfaaGreatDoor
open Go.RowKit
set_option maxRecDepth 100000
end Go.Proofs.YtdakbipiifkmfaaGreatDoor

/-
 THE LAWS OF CHAPTER 11: XmssOwn, over contracts of the program's own functions.
-/
namespace Go.Proofs.YtdakbipiifkmfaaGreatDoor
open Go.RowKit
set_option maxRecDepth 100000
end Go.Proofs.YtdakbipiifkmfaaGreatDoor

/-
 THE LAWS OF CHAPTER 11: XmssSigns, over a contract of the program's own Sign.
-/
namespace Go.Proofs.YtdakbipiifkmfaaGreatDoor
open Go.RowKit
set_option maxRecDepth 100000
end Go.Proofs.YtdakbipiifkmfaaGreatDoor
