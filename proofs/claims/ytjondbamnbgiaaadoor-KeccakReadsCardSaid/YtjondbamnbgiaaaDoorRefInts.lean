/-
  WALKS: the document's own Big, Fits, Put, Turned.
-/
import Derived.Test.YtjondbamnbgiaaaDoorTake
namespace Go.Proofs.YtjondbamnbgiaaaDoor
open Go.RowKit
set_option maxRecDepth 100000

theorem set_back (k r : Nat) (x : UInt8) (T : List UInt8) (h : r < k) : (List.replicate (k - r) (0 : UInt8) ++ T).set (k - 1 - r) x = List.replicate (k - (r + 1)) 0 ++ x :: T := by
  obtain ⟨m, rfl⟩ : ∃ m, k = r + (m + 1) := ⟨k - r - 1, by omega⟩
  have e1 : r + (m + 1) - r = m + 1 := by omega
  have e2 : r + (m + 1) - 1 - r = m := by omega
  have e3 : r + (m + 1) - (r + 1) = m := by omega
  rw [e1, e2, e3, List.replicate_succ', List.append_assoc, List.set_append_right _ _ (by simp)]
  simp
theorem litB_take_rev (n k r : Nat) (h : r < k) : ((litB n k).take (r + 1)).reverse = UInt8.ofNat (n / 256 ^ r % 256) :: ((litB n k).take r).reverse := by
  rw [take_snoc _ _ (by rw [litB_length]; exact h), List.reverse_append, litB_getElem]
  rfl
theorem byte_mod (n r : Nat) : (((n / 256 ^ r : Nat) : Int) % 256) = ((UInt8.ofNat (n / 256 ^ r % 256)).toNat : Int) := by
  have h : (UInt8.ofNat (n / 256 ^ r % 256)).toNat = n / 256 ^ r % 256 := by simp
  rw [h]; omega
theorem div_step (n r : Nat) : (((n / 256 ^ r : Nat) : Int) / 256) = ((n / 256 ^ (r + 1) : Nat) : Int) := by
  rw [Nat.pow_succ, ← Nat.div_div_eq_div_mul]; omega

theorem gives_nil (w : World) : Gives w [] (.slice none 0 0) w := ⟨World.ownsRow_nil _ _ _ _, Below.refl _ _⟩
def putB (n : Nat) (size : Int) : List UInt8 := if putErr n size = 0 then bigB n size.toNat else []

end Go.Proofs.YtjondbamnbgiaaaDoor
