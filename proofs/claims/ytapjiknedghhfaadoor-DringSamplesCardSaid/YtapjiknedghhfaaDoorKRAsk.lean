/-
 WALKS: the document's own Sha3256, Sha3512, Shake, Ask.
-/
import Derived.Test.YtapjiknedghhfaaDoorKRSponge
import Derived.Test.YtapjiknedghhfaaDoorKXo
namespace Go.Proofs.YtapjiknedghhfaaDoor
open Go.RowKit
set_option maxRecDepth 100000

theorem refShake128_any (n : Nat) (hn : n ≤ 1048576) (B : Nat) (v : Value) (m : List UInt8) (w : World) (hs : Sl w B v m) (hB : B ≤ w.heap.size) (hl : m.length ≤ 1000000) :
  Calls Tryd.prog 20 #[.int .i64 128, .int .i64 (n : Int), v] w (OwnIs w (spongeL 168 31 m n)) := by
 unfold OwnIs
 go_enter Tryd.func20, Tryd.ntmps20
 go_wp2_with (go_at_call 36; refine (refSponge_any 168 (by decide) (by decide) 31 n hn B v m _ hs hB hl).mono ?_)
 rintro e w1 ⟨v1, rfl, g1⟩
 go_wp2
 go_ret
 exact ⟨_, rfl, g1⟩
theorem refShake256_any (n : Nat) (hn : n ≤ 1048576) (B : Nat) (v : Value) (m : List UInt8) (w : World) (hs : Sl w B v m) (hB : B ≤ w.heap.size) (hl : m.length ≤ 1000000) :
  Calls Tryd.prog 20 #[.int .i64 256, .int .i64 (n : Int), v] w (OwnIs w (spongeL 136 31 m n)) := by
 unfold OwnIs
 go_enter Tryd.func20, Tryd.ntmps20
 go_wp2_with (go_at_call 36; refine (refSponge_any 136 (by decide) (by decide) 31 n hn B v m _ hs hB hl).mono ?_)
 rintro e w1 ⟨v1, rfl, g1⟩
 go_wp2
 go_ret
 exact ⟨_, rfl, g1⟩
/-- bytes of their own and no error are handed back -/
def OwnOk (w : World) (bs : List UInt8) (e : Ending) (w' : World) : Prop := ∃ v, e = .returned (.tuple #[v, .int .i64 0]) ∧ Gives w bs v w'
/-- no bytes and an error are handed back -/
def NoneIs (w : World) (c : Int) (e : Ending) (w' : World) : Prop := e = .returned (.tuple #[.slice none 0 0, .int .i64 c]) ∧ w' = w
end Go.Proofs.YtapjiknedghhfaaDoor
