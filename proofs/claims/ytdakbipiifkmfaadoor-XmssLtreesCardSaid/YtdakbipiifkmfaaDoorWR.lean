import Derived.Test.YtdakbipiifkmfaaDoorWQ
import Derived.Laws.EntriesVeiled
import Derived.Test.YtdakbipiifkmfaaDoorWY
/-
 THE PROGRAM'S OWN walker and starter: functions that are handed back.
-/
namespace Go.Proofs.YtdakbipiifkmfaaDoor
open Go.RowKit
set_option maxRecDepth 100000
/-- a slice of bytes that lies in no block that was there, but those of v -/
def WalkIs (w : World) (v : Value) (bs : List UInt8) (e : Ending) (w' : World) : Prop := ∃ r, e = .returned r ∧ Sl w' w'.heap.size r bs ∧ Below w.heap.size w w' ∧ ∀ g, g < w.heap.size → Off g v → Off g r
end Go.Proofs.YtdakbipiifkmfaaDoor

/-
 THE PROGRAM'S OWN walker and starter: what they hand back.
-/
namespace Go.Proofs.YtdakbipiifkmfaaDoor
open Go.RowKit
set_option maxRecDepth 100000
/-- a function value that walks a chain, from now on -/
def WalkAt (w : World) (g : Nat) (v : Value) (x : S5) (seed : List UInt8) : Prop :=
 ∃ F c1 c2, v = .func (.func F) #[] #[c1, c2] ∧ (∀ (xs : Array Value) (W : World), (callFunc F xs).run Tryd.prog W = .ok (.enter F xs) W) ∧ ∀ (W : World) (vb : Value) (b : List UInt8) (f k : Nat) (a : List UInt32), But w.heap.size g w W → Tabs W → Sl W W.heap.size vb b → b.length = x.n.toNat → f + k ≤ 15 → a.length = 8 → Calls Tryd.prog F #[vb, .int .i64 (f : Int), .int .i64 (k : Int), adrV a, c1, c2] W (WalkIs W vb (goB x.s x.n seed a b f k))
theorem WalkAt.but {w w' : World} {g : Nat} {v : Value} {x : S5} {seed : List UInt8} (h : WalkAt w g v x seed) (b : But w.heap.size g w w') : WalkAt w' g v x seed := by
 obtain ⟨F, c1, c2, rfl, hf, h⟩ := h
 exact ⟨F, c1, c2, rfl, hf, fun W vb b' f k a hb => h W vb b' f k a (b.chain hb)⟩
theorem WalkAt.go {w w' : World} {g : Nat} {v : Value} {x : S5} {seed : List UInt8} (h : WalkAt w g v x seed) (b : Below w.heap.size w w') : WalkAt w' g v x seed := h.but (But.of b g)
/-- a function value that begins a chain, from now on -/
def StartAt (w : World) (g : Nat) (v : Value) (x : S5) (sk seed : List UInt8) : Prop :=
 ∃ F c1 c2, v = .func (.func F) #[] #[c1, c2] ∧ (∀ (xs : Array Value) (W : World), (callFunc F xs).run Tryd.prog W = .ok (.enter F xs) W) ∧ ∀ (W : World) (a : List UInt32), But w.heap.size g w W → Tabs W → a.length = 8 → Calls Tryd.prog F #[adrV a, c1, c2] W (NewSl W (keyd x.s x.n 4 sk (seed ++ adrB (withA a 0 0))))
theorem StartAt.but {w w' : World} {g : Nat} {v : Value} {x : S5} {sk seed : List UInt8} (h : StartAt w g v x sk seed) (b : But w.heap.size g w w') : StartAt w' g v x sk seed := by
 obtain ⟨F, c1, c2, rfl, hf, h⟩ := h
 exact ⟨F, c1, c2, rfl, hf, fun W a hb => h W a (b.chain hb)⟩
theorem StartAt.go {w w' : World} {g : Nat} {v : Value} {x : S5} {sk seed : List UInt8} (h : StartAt w g v x sk seed) (b : Below w.heap.size w w') : StartAt w' g v x sk seed := h.but (But.of b g)
end Go.Proofs.YtdakbipiifkmfaaDoor

/-
 THE PROGRAM'S OWN starter, Digits.
-/
namespace Go.Proofs.YtdakbipiifkmfaaDoor
open Go.RowKit
set_option maxRecDepth 100000
end Go.Proofs.YtdakbipiifkmfaaDoor

/-
 THE PROGRAM'S OWN Secret and Chain.
-/
namespace Go.Proofs.YtdakbipiifkmfaaDoor
open Go.RowKit
set_option maxRecDepth 100000
/-- bytes in new memory and an error are handed back -/
def ResNew (w : World) (er : Int) (bs : List UInt8) (e : Ending) (w' : World) : Prop := ∃ r, e = .returned (.tuple #[r, .int .i64 er]) ∧ Sl w' w'.heap.size r bs ∧ Below w.heap.size w w' ∧ ∀ g, g < w.heap.size → Off g r
theorem ResNew.off {u v : Value} {w : World} {er : Int} {bs : List UInt8} {e : Ending} {w' : World} (h : ResNew w er bs e w') : ResOff u v w er bs e w' := by
 obtain ⟨r, a, b, c, d⟩ := h
 exact ⟨r, a, b, c, fun g hg _ _ => d g hg⟩
end Go.Proofs.YtdakbipiifkmfaaDoor

/-
 THE PROGRAM'S OWN FromSig.
-/
namespace Go.Proofs.YtdakbipiifkmfaaDoor
open Go.RowKit
set_option maxRecDepth 100000
end Go.Proofs.YtdakbipiifkmfaaDoor

/-
 slices.Repeat of one number: its walk.
-/
namespace Go.Proofs.YtdakbipiifkmfaaDoor
open Go.RowKit
set_option maxRecDepth 100000
end Go.Proofs.YtdakbipiifkmfaaDoor

/-
 THE PROGRAM'S OWN grown.
-/
namespace Go.Proofs.YtdakbipiifkmfaaDoor
open Go.RowKit
set_option maxRecDepth 100000
end Go.Proofs.YtdakbipiifkmfaaDoor

/-
 THE PROGRAM'S OWN Public and Sign.
-/
namespace Go.Proofs.YtdakbipiifkmfaaDoor
open Go.RowKit
set_option maxRecDepth 100000
end Go.Proofs.YtdakbipiifkmfaaDoor
