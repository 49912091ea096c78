/-
  WALKS: the document's own Sha3256, Sha3512, Shake, Ask.
-/
import Derived.Test.YtjondbamnbgiaaaDoorRSponge
import Derived.Test.YtjondbamnbgiaaaDoorXof
namespace Go.Proofs.YtjondbamnbgiaaaDoor
open Go.RowKit
set_option maxRecDepth 100000

theorem refSha3256_any (B : Nat) (v : Value) (m : List UInt8) (w : World) (hs : Sl w B v m) (hB : B ≤ w.heap.size) (hl : m.length ≤ 1000000) :
    Calls Tryd.prog 20 #[v] w (OwnIs w (spongeL 136 6 m 32)) := by
  unfold OwnIs
  go_enter Tryd.func20, Tryd.ntmps20
  go_wp2_with (go_at_call 37; refine (refSponge_any 136 (by decide) (by decide) 6 32 (by decide) B v m _ hs hB hl).mono ?_)
  rintro e w1 ⟨v1, rfl, g1⟩
  go_wp2
  go_ret
  exact ⟨_, rfl, g1⟩
theorem refSha3512_any (B : Nat) (v : Value) (m : List UInt8) (w : World) (hs : Sl w B v m) (hB : B ≤ w.heap.size) (hl : m.length ≤ 1000000) :
    Calls Tryd.prog 21 #[v] w (OwnIs w (spongeL 72 6 m 64)) := by
  unfold OwnIs
  go_enter Tryd.func21, Tryd.ntmps21
  go_wp2_with (go_at_call 37; refine (refSponge_any 72 (by decide) (by decide) 6 64 (by decide) B v m _ hs hB hl).mono ?_)
  rintro e w1 ⟨v1, rfl, g1⟩
  go_wp2
  go_ret
  exact ⟨_, rfl, g1⟩
theorem refShake128_any (n : Nat) (hn : n ≤ 1048576) (B : Nat) (v : Value) (m : List UInt8) (w : World) (hs : Sl w B v m) (hB : B ≤ w.heap.size) (hl : m.length ≤ 1000000) :
    Calls Tryd.prog 26 #[.int .i64 128, .int .i64 (n : Int), v] w (OwnIs w (spongeL 168 31 m n)) := by
  unfold OwnIs
  go_enter Tryd.func26, Tryd.ntmps26
  go_wp2_with (go_at_call 37; refine (refSponge_any 168 (by decide) (by decide) 31 n hn B v m _ hs hB hl).mono ?_)
  rintro e w1 ⟨v1, rfl, g1⟩
  go_wp2
  go_ret
  exact ⟨_, rfl, g1⟩
theorem refShake256_any (n : Nat) (hn : n ≤ 1048576) (B : Nat) (v : Value) (m : List UInt8) (w : World) (hs : Sl w B v m) (hB : B ≤ w.heap.size) (hl : m.length ≤ 1000000) :
    Calls Tryd.prog 26 #[.int .i64 256, .int .i64 (n : Int), v] w (OwnIs w (spongeL 136 31 m n)) := by
  unfold OwnIs
  go_enter Tryd.func26, Tryd.ntmps26
  go_wp2_with (go_at_call 37; refine (refSponge_any 136 (by decide) (by decide) 31 n hn B v m _ hs hB hl).mono ?_)
  rintro e w1 ⟨v1, rfl, g1⟩
  go_wp2
  go_ret
  exact ⟨_, rfl, g1⟩
/-- bytes of their own and no error are handed back -/
def OwnOk (w : World) (bs : List UInt8) (e : Ending) (w' : World) : Prop := ∃ v, e = .returned (.tuple #[v, .int .i64 0]) ∧ Gives w bs v w'
/-- no bytes and an error are handed back -/
def NoneIs (w : World) (c : Int) (e : Ending) (w' : World) : Prop := e = .returned (.tuple #[.slice none 0 0, .int .i64 c]) ∧ w' = w
theorem refAsk128_any (n : Nat) (hn : n ≤ 1048576) (B : Nat) (v : Value) (m : List UInt8) (w : World) (hs : Sl w B v m) (hB : B ≤ w.heap.size) (hl : m.length ≤ 1000000) :
    Calls Tryd.prog 23 #[.int .i64 128, .int .i64 (n : Int), v] w (OwnOk w (spongeL 168 31 m n)) := by
  unfold OwnOk
  have h0 : ¬ (n : Int) < 0 := by omega
  have h1 : ¬ (1048576 : Int) < (n : Int) := by omega
  have d0 : decide ((n : Int) < 0) = false := by simp
  go_enter Tryd.func23, Tryd.ntmps23
  go_wp2_with (go_at_call 26; refine (refShake128_any n hn B v m _ hs hB hl).mono ?_)
  rintro e w1 ⟨v1, rfl, g1⟩
  go_wp2
  go_ret2
  exact ⟨_, rfl, g1⟩
theorem refAsk256_any (n : Nat) (hn : n ≤ 1048576) (B : Nat) (v : Value) (m : List UInt8) (w : World) (hs : Sl w B v m) (hB : B ≤ w.heap.size) (hl : m.length ≤ 1000000) :
    Calls Tryd.prog 23 #[.int .i64 256, .int .i64 (n : Int), v] w (OwnOk w (spongeL 136 31 m n)) := by
  unfold OwnOk
  have h0 : ¬ (n : Int) < 0 := by omega
  have h1 : ¬ (1048576 : Int) < (n : Int) := by omega
  have d0 : decide ((n : Int) < 0) = false := by simp
  go_enter Tryd.func23, Tryd.ntmps23
  go_wp2_with (go_at_call 26; refine (refShake256_any n hn B v m _ hs hB hl).mono ?_)
  rintro e w1 ⟨v1, rfl, g1⟩
  go_wp2
  go_ret2
  exact ⟨_, rfl, g1⟩
theorem refAsk_bits (b n : Int) (h1 : ¬ b = 128) (h2 : ¬ b = 256) (v : Value) (w : World) :
    Calls Tryd.prog 23 #[.int .i64 b, .int .i64 n, v] w (NoneIs w 1) := by
  unfold NoneIs
  go_enter Tryd.func23, Tryd.ntmps23
  go_wp2
  go_ret2
  exact ⟨rfl, rfl⟩
theorem refAsk_neg (b n : Int) (h1 : b = 128 ∨ b = 256) (h2 : n < 0) (v : Value) (w : World) :
    Calls Tryd.prog 23 #[.int .i64 b, .int .i64 n, v] w (NoneIs w 1) := by
  unfold NoneIs
  rcases h1 with rfl | rfl
  · go_enter Tryd.func23, Tryd.ntmps23
    go_wp2
    go_ret2
    exact ⟨rfl, rfl⟩
  · go_enter Tryd.func23, Tryd.ntmps23
    go_wp2
    go_ret2
    exact ⟨rfl, rfl⟩
theorem refAsk_much (b n : Int) (h1 : b = 128 ∨ b = 256) (h2 : 1048576 < n) (v : Value) (w : World) :
    Calls Tryd.prog 23 #[.int .i64 b, .int .i64 n, v] w (NoneIs w 3) := by
  unfold NoneIs
  have h0 : decide (n < 0) = false := by simp; omega
  rcases h1 with rfl | rfl
  · go_enter Tryd.func23, Tryd.ntmps23
    go_wp2
    go_ret2
    exact ⟨rfl, rfl⟩
  · go_enter Tryd.func23, Tryd.ntmps23
    go_wp2
    go_ret2
    exact ⟨rfl, rfl⟩
end Go.Proofs.YtjondbamnbgiaaaDoor
