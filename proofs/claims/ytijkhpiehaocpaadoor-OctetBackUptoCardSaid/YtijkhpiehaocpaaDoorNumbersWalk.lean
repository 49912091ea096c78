/-
  THE WALK of liverylaw01.OctetNumbers, out of the contracts of all that it calls.
-/
import Derived.Test.YtijkhpiehaocpaaDoorLive
namespace Go.Proofs.YtijkhpiehaocpaaDoor
open Go.RowKit
set_option maxRecDepth 100000

theorem big_any (n : Nat) (m : Int) (w : World) : Calls Tryd.prog 10 #[.int .u64 n, .int .i64 m] w (PutIs w (putErr n m) (putB n m)) := by
  unfold putB putErr
  by_cases h1 : m < 1 ∨ 8 < m
  · rw [if_pos h1]
    exact (big_arg n m w h1).mono fun e w' hx => ⟨_, hx.1, by rw [← hx.2]; exact gives_nil w⟩
  · obtain ⟨k, rfl⟩ := Int.eq_ofNat_of_zero_le (show 0 ≤ m by omega)
    rw [if_neg h1, Int.toNat_natCast]
    by_cases h2 : 256 ^ k ≤ n
    · rw [if_pos h2]
      exact (big_long n k w (by omega) (by omega) h2).mono fun e w' hx => ⟨_, hx.1, by rw [← hx.2]; exact gives_nil w⟩
    · rw [if_neg h2, if_pos rfl]
      exact big_ok n k w (by omega) (by omega) (by omega)
theorem little_any (n : Nat) (m : Int) (w : World) : Calls Tryd.prog 12 #[.int .u64 n, .int .i64 m] w (PutIs w (putErr n m) (putB n m).reverse) := by
  unfold putB putErr
  by_cases h1 : m < 1 ∨ 8 < m
  · rw [if_pos h1]
    exact (little_arg n m w h1).mono fun e w' hx => ⟨_, hx.1, by rw [← hx.2]; exact gives_nil w⟩
  · obtain ⟨k, rfl⟩ := Int.eq_ofNat_of_zero_le (show 0 ≤ m by omega)
    rw [if_neg h1, Int.toNat_natCast]
    by_cases h2 : 256 ^ k ≤ n
    · rw [if_pos h2]
      exact (little_long n k w (by omega) (by omega) h2).mono fun e w' hx => ⟨_, hx.1, by rw [← hx.2]; exact gives_nil w⟩
    · rw [if_neg h2, if_pos rfl]
      have h := little_ok n k w (by omega) (by omega) (by omega)
      have e : (bigB n k).reverse = litB n k := by unfold bigB; rw [List.reverse_reverse]
      rw [e]
      exact h
theorem litB_mod (n k : Nat) : litB (n % 256 ^ k) k = litB n k := by
  have h : (litB n k).length = k := litB_length n k
  rw [← litN_litB]
  conv => lhs; rw [← h, litN_litB, h]
  have := litB_litN (litB n k)
  rw [litN_litB, h] at this
  exact this
/-- A slice of bytes is handed back, in memory of its own. -/
def OwnIs (w : World) (bs : List UInt8) (e : Ending) (w' : World) : Prop := ∃ v, e = .returned v ∧ Gives w bs v w'
theorem Sl.step {w w' : World} {v : Value} {bs : List UInt8} (h : Sl w w.heap.size v bs) (hb : Below w.heap.size w w') : Sl w' w'.heap.size v bs := (h.below hb).more hb.size
theorem gives_sl {w w' : World} {v : Value} {bs : List UInt8} (h : Gives w bs v w') : Sl w' w'.heap.size v bs := Sl.of_own h.1
theorem Below.chain {a b c : World} (h : Below a.heap.size a b) (k : Below b.heap.size b c) : Below a.heap.size a c := h.trans (k.mono h.size)
theorem putB_length (n : Nat) (m : Int) : (putB n m).length ≤ 8 := by
  unfold putB
  by_cases h : putErr n m = 0
  · rw [if_pos h, bigB_length]
    unfold putErr at h
    by_cases h1 : m < 1 ∨ 8 < m
    · rw [if_pos h1] at h; cases h
    · omega
  · rw [if_neg h]; simp

end Go.Proofs.YtijkhpiehaocpaaDoor
