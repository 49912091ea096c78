/-
  WALKS: seal.derived, seal.Keys.
-/
import Derived.Test.YthahnckjmlcehaaMD
import Derived.Lib.ConvBytes
import Derived.Lib.AtoiErrMem
import Derived.Laws.AppendOwn
namespace Go.Proofs.Ythahnckjmlcehaa
open Go.RowKit
set_option maxRecDepth 100000

/-- a hypothesis that nothing looks into till it is opened -/
structure Shh (p : Prop) : Prop where
  out : p
def encI : List UInt8 := [108, 105, 118, 101, 114, 121, 32, 101, 110, 99]
def macI : List UInt8 := [108, 105, 118, 101, 114, 121, 32, 109, 97, 99]
theorem expB_length (prk info : List UInt8) (n : Nat) : (expB prk info n).length = n := by
  unfold expB
  rw [List.length_take, okmB_length]
  omega
/-- bytes that lie in memory are handed back; nothing that was there has turned -/
def SlIs (w : World) (bs : List UInt8) (e : Ending) (w' : World) : Prop := ∃ v, e = .returned v ∧ Sl w' w'.heap.size v bs ∧ Below w.heap.size w w'

end Go.Proofs.Ythahnckjmlcehaa
