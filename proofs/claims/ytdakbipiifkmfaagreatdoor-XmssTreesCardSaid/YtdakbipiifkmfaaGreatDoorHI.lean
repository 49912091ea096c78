import Derived.Test.YtdakbipiifkmfaaGreatDoorHH
import Derived.Test.YtdakbipiifkmfaaGreatDoorHF
import Derived.Deep.Matrix
import Derived.WideKeyArr2
import Derived.Deep.Grids
/-
 LAWS over contracts of the program's own functions: few, Public, On, Digits.
-/
namespace Go.Proofs.YtdakbipiifkmfaaGreatDoor
open Go.RowKit
set_option maxRecDepth 100000
/-- both tables lie in memory -/
def Tabs (w : World) : Prop := Vars w ∧ KVars w
theorem Tabs.go {w w' : World} (h : Tabs w) (b : Below w.heap.size w w') : Tabs w' := ⟨h.1.go b, h.2.step b⟩
end Go.Proofs.YtdakbipiifkmfaaGreatDoor

/-
 CHAINS COMPOSE; the pieces of a signature; where its chains end; addresses that agree.
-/
namespace Go.Proofs.YtdakbipiifkmfaaGreatDoor
open Go.RowKit
set_option maxRecDepth 100000
end Go.Proofs.YtdakbipiifkmfaaGreatDoor

/-
 LAW over contracts of the program's own functions: Verifies.
-/
namespace Go.Proofs.YtdakbipiifkmfaaGreatDoor
open Go.RowKit
set_option maxRecDepth 100000
end Go.Proofs.YtdakbipiifkmfaaGreatDoor

/-
 LAW over contracts of the program's own functions: Steps.
-/
namespace Go.Proofs.YtdakbipiifkmfaaGreatDoor
open Go.RowKit
set_option maxRecDepth 100000
end Go.Proofs.YtdakbipiifkmfaaGreatDoor

/-
 LAW over contracts of the program's own functions: Digits; ints compared.
-/
namespace Go.Proofs.YtdakbipiifkmfaaGreatDoor
open Go.RowKit
set_option maxRecDepth 100000
end Go.Proofs.YtdakbipiifkmfaaGreatDoor

/-
 LAW over contracts of the program's own functions: Below.
-/
namespace Go.Proofs.YtdakbipiifkmfaaGreatDoor
open Go.RowKit
set_option maxRecDepth 100000
end Go.Proofs.YtdakbipiifkmfaaGreatDoor

/-
 LAW over contracts of the program's own functions: Keyed.
-/
namespace Go.Proofs.YtdakbipiifkmfaaGreatDoor
open Go.RowKit
set_option maxRecDepth 100000
end Go.Proofs.YtdakbipiifkmfaaGreatDoor

/-
 THE LAWS' live, over contracts of the program's own functions.
-/
namespace Go.Proofs.YtdakbipiifkmfaaGreatDoor
open Go.RowKit
set_option maxRecDepth 100000
def x0 : S5 := ⟨4043309073, false, 24, 1, 51⟩
def a0 : List UInt32 := List.replicate 8 0
end Go.Proofs.YtdakbipiifkmfaaGreatDoor

/-
 LAW over contracts of the program's own functions: Counts.
-/
namespace Go.Proofs.YtdakbipiifkmfaaGreatDoor
open Go.RowKit
set_option maxRecDepth 100000
/-- bytes and an error are handed back; the bytes lie off whatever both arguments lie off -/
def ResOff (u v : Value) (w : World) (er : Int) (bs : List UInt8) (e : Ending) (w' : World) : Prop := ∃ r, e = .returned (.tuple #[r, .int .i64 er]) ∧ Sl w' w'.heap.size r bs ∧ Below w.heap.size w w' ∧ ∀ g, g < w.heap.size → Off g u → Off g v → Off g r
theorem Tabs.but {w w' : World} {g : Nat} (h : Tabs w) (hb : But w.heap.size g w w') (h1 : 0 ≠ g) (h2 : 1 ≠ g) : Tabs w' := ⟨h.1.but hb h1, h.2.but hb h2⟩
end Go.Proofs.YtdakbipiifkmfaaGreatDoor

/-
 ARGUMENTS OPENED: an address by value; a set by its fields.
-/
namespace Go.Proofs.YtdakbipiifkmfaaGreatDoor
open Go.ChangeShapes Go.WideShapes Go.ChangeAt Go.RowKit
set_option maxRecDepth 100000
section
variable {H : Type} {enc : TypeId × Value → H} {P : Program}

end
end Go.Proofs.YtdakbipiifkmfaaGreatDoor
