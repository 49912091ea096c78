import Derived.Laws.Cover3
import Derived.BigQuiet
import Derived.StillTailTactics
import Derived.BigRegion
import Derived.Deep.RegionWith
import Derived.Deep.RegionHeld
import Derived.Deep.MidRow
import Derived.Deep.WholeRow
import Derived.Deep.RegionHeld3
import Derived.Deep.QuietTactic
import Derived.Test.YtdakbipiifkmfaaGreatDoorRows
import Derived.ProofKit
import Derived.OpenShut
import Derived.JoinedCond
import Derived.SizedLaws
import Derived.Carry
import Derived.Deep.Grids
import Derived.Lib.ConvBytes
import Derived.Lib.AtoiErrMem
import Derived.Laws.AppendOwn
import Derived.RegionTactic
import Derived.Deep.RegionLaw
import Derived.Laws.CopyOwn
import Derived.DeepKeys
import Derived.Lib.SmallJoins
import Derived.WalkKit
import Derived.Test.YtdakbipiifkmfaaGreatDoorProg
import Derived.WalkSpells
import Derived.WalkLawsBesides
import Derived.Lib.UnsafeStr
import Derived.Lib.Hide
import Derived.Laws.BytesArg
import Derived.Deep.Draws
import Derived.ChangeAlike
import Derived.Laws.AppendOwnNone
import Derived.Test.YtdakbipiifkmfaaGreatDoorHH
namespace Go.Proofs.YtdakbipiifkmfaaGreatDoor
open Go.RowKit
set_option maxRecDepth 100000
def Tabs (w : World) : Prop := Vars w /\ KVars w
theorem Tabs.go {w w' : World} (h : Tabs w) (b : Below w.heap.size w w') : Tabs w' := ⟨h.1.go b, h.2.step b⟩
def sgB (x : S5) (sk seed m : List UInt8) (a : List UInt32) : List UInt8 := if badE x [sk, seed, m] = 0 then endsB x.s x.n sk seed a (dOf (dig10 m)) x.l.toNat else []
theorem badE_of {x : S5} {bss : List (List UInt8)} (h : x.ok = true) (h2 : ∀ b ∈ bss, (b.length : Int) = x.n) : badE x bss = 0 := by
 unfold badE;rw [if_pos h, if_pos];rw [List.all_eq_true];exact fun b hb => decide_eq_true (h2 b hb)
def x0 : S5 := ⟨4043309073, false, 24, 1, 51⟩
def a0 : List UInt32 := List.replicate 8 0
def ResOff (u v : Value) (w : World) (er : Int) (bs : List UInt8) (e : Ending) (w' : World) : Prop := ∃ r, e = .returned (.tuple #[r, .int .i64 er]) /\ Sl w' w'.heap.size r bs /\ Below w.heap.size w w' /\ ∀ g, g < w.heap.size -> Off g u -> Off g v -> Off g r
theorem Tabs.but {w w' : World} {g : Nat} (h : Tabs w) (hb : But w.heap.size g w w') (h1 : 0 ≠ g) (h2 : 1 ≠ g) : Tabs w' := ⟨h.1.but hb h1, h.2.but hb h2⟩
end Go.Proofs.YtdakbipiifkmfaaGreatDoor
