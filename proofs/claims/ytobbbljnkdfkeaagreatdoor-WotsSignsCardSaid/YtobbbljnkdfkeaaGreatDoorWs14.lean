/-
  LAW over contracts of the program's own functions: Steps.
-/
import Derived.Test.YtobbbljnkdfkeaaGreatDoorWs12
namespace Go.Proofs.YtobbbljnkdfkeaaGreatDoor
open Go.RowKit
set_option maxRecDepth 100000
/-- some steps, if they may be asked -/
def chN (x : S5) (b seed : List UInt8) (a : List UInt32) (f n : Nat) : List UInt8 := if badE x [b, seed] = 0 then goB x.s x.n seed a b f n else []
end Go.Proofs.YtobbbljnkdfkeaaGreatDoor
