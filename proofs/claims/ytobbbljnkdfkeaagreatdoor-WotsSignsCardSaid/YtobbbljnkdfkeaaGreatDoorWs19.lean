/-
  LAW over contracts of the program's own functions: Counts.
-/
import Derived.Test.YtobbbljnkdfkeaaGreatDoorWs14
namespace Go.Proofs.YtobbbljnkdfkeaaGreatDoor
open Go.RowKit
set_option maxRecDepth 100000
/-- bytes and an error are handed back; the bytes lie off whatever both arguments lie off -/
def ResOff (u v : Value) (w : World) (er : Int) (bs : List UInt8) (e : Ending) (w' : World) : Prop := ∃ r, e = .returned (.tuple #[r, .int .i64 er]) ∧ Sl w' w'.heap.size r bs ∧ Below w.heap.size w w' ∧ ∀ g, g < w.heap.size → Off g u → Off g v → Off g r
theorem Tabs.but {w w' : World} {g : Nat} (h : Tabs w) (hb : But w.heap.size g w w') (h1 : 0 ≠ g) (h2 : 1 ≠ g) : Tabs w' := ⟨h.1.but hb h1, h.2.but hb h2⟩
/-- where a chain begins, if it may be asked -/
def scN (x : S5) (sk seed : List UInt8) (a : List UInt32) (i : Nat) : List UInt8 := if badE x [sk, seed] = 0 then beginB x.s x.n sk seed a i else []
end Go.Proofs.YtobbbljnkdfkeaaGreatDoor
