/-
 WALKS: seal.derived, seal.Keys.
-/
import Derived.Test.YtpajdmbajopofaaMD
import Derived.Lib.ConvBytes
import Derived.Lib.AtoiErrMem
import Derived.Laws.AppendOwn
namespace Go.Proofs.Ytpajdmbajopofaa
open Go.RowKit
set_option maxRecDepth 100000

/-- a hypothesis that nothing looks into till it is opened -/
structure Shh (p : Prop) : Prop where
 out : p
def encI : List UInt8 := [108, 105, 118, 101, 114, 121, 32, 101, 110, 99]
def macI : List UInt8 := [108, 105, 118, 101, 114, 121, 32, 109, 97, 99]
theorem expB_length (prk info : List UInt8) (n : Nat) : (expB prk info n).length = n := by
 unfold expB
 rw [List.length_take, okmB_length]
 omega
/-- bytes that lie in memory are handed back; nothing that was there has turned -/
def SlIs (w : World) (bs : List UInt8) (e : Ending) (w' : World) : Prop := ∃ v, e = .returned v ∧ Sl w' w'.heap.size v bs ∧ Below w.heap.size w w'

/-- a text made to bytes: the slice, the world, and that the slice reads as the text -/
theorem conv_text (s : List UInt8) (hl : s.length ≤ 1000) (w : World) : ∃ v W, (convert 9 33 (.string ⟨s.toArray⟩)).run Try.prog w = .ok v W ∧ Shh (Sl W W.heap.size v s ∧ Below w.heap.size w W) := by
 have h := Lib.run_convert_string_bytes (P := Try.prog) w 9 33 5 ⟨s.toArray⟩ Try.underlying9 Try.underlying33 Try.underlying5
 refine ⟨_, _, h, ⟨⟨_, _, rfl, grownCap_ge _ _ _ _, grownCap_le_maxLen _ _ _ _ (show s.length ≤ maxLen by unfold maxLen; omega), fun _ => ⟨_, 0, rfl, by rw [Lib.bytesWorld_size]; omega, fun k hk => ?_⟩⟩, Lib.bytesWorld_below _ _ _⟩⟩
 have hc := Lib.bytesWorld_cell w 5 ⟨s.toArray⟩ k (by simpa [ByteArray.size] using hk)
 rw [Nat.zero_add, hc]
 simp [List.getD, hk]

end Go.Proofs.Ytpajdmbajopofaa
