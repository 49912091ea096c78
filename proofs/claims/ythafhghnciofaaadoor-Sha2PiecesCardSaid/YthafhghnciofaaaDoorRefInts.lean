/-
  WALKS: the document's own Big, Fits, Put, Turned.
-/
import Derived.Test.YthafhghnciofaaaDoorTake
namespace Go.Proofs.YthafhghnciofaaaDoor
open Go.RowKit
set_option maxRecDepth 100000

theorem set_back (k r : Nat) (x : UInt8) (T : List UInt8) (h : r < k) : (List.replicate (k - r) (0 : UInt8) ++ T).set (k - 1 - r) x = List.replicate (k - (r + 1)) 0 ++ x :: T := by
  obtain ⟨m, rfl⟩ : ∃ m, k = r + (m + 1) := ⟨k - r - 1, by omega⟩
  have e1 : r + (m + 1) - r = m + 1 := by omega
  have e2 : r + (m + 1) - 1 - r = m := by omega
  have e3 : r + (m + 1) - (r + 1) = m := by omega
  rw [e1, e2, e3, List.replicate_succ', List.append_assoc, List.set_append_right _ _ (by simp)]
  simp
theorem litB_take_rev (n k r : Nat) (h : r < k) : ((litB n k).take (r + 1)).reverse = UInt8.ofNat (n / 256 ^ r % 256) :: ((litB n k).take r).reverse := by
  rw [take_snoc _ _ (by rw [litB_length]; exact h), List.reverse_append, litB_getElem]
  rfl
theorem byte_mod (n r : Nat) : (((n / 256 ^ r : Nat) : Int) % 256) = ((UInt8.ofNat (n / 256 ^ r % 256)).toNat : Int) := by
  have h : (UInt8.ofNat (n / 256 ^ r % 256)).toNat = n / 256 ^ r % 256 := by simp
  rw [h]; omega
theorem div_step (n r : Nat) : (((n / 256 ^ r : Nat) : Int) / 256) = ((n / 256 ^ (r + 1) : Nat) : Int) := by
  rw [Nat.pow_succ, ← Nat.div_div_eq_div_mul]; omega

set_option maxHeartbeats 400000 in
theorem refBig_any (n k : Nat) (w : World) (hk : k ≤ 8) (hn : n < 18446744073709551616) :
    Calls Tryd.prog 39 #[.int .u64 n, .int .i64 k] w fun e w' => ∃ v, e = .returned v ∧ Gives w (bigB n k) v w' := by
  have hmk := make_run k (by omega)
  go_enter Tryd.func39, Tryd.ntmps39
  go_wp2
  go_loopw [0, 6] (fun m i wr => ∃ r : Nat, r ≤ k ∧ i = .int .i64 ((k : Int) - 1 - r) ∧ m = .int .u64 ((n / 256 ^ r : Nat) : Int) ∧ Blk wr w.heap.size (List.replicate (k - r) 0 ++ ((litB n k).take r).reverse) ∧ Below w.heap.size w wr) (fun _ i _ => (intOf i + 1).toNat)
  case atStart =>
    exact ⟨0, Nat.zero_le _, by simp, by simp, by simpa using Blk.new w _, (Below.refl _ _).alloc (Nat.le_refl _) _⟩
  case round =>
    obtain ⟨r, hr, rfl, rfl, hblk, hbel⟩ := hrel
    have hq : n / 256 ^ r ≤ n := Nat.div_le_self _ _
    by_cases hlt : r < k
    · have hc := hblk.cell (k - 1 - r) (by simp [litB_length]; omega)
      have hf := hblk.free (k - 1 - r)
      have hs := hblk.set_ (k - 1 - r) (UInt8.ofNat (n / 256 ^ r % 256))
      rw [set_back _ _ _ _ hlt, ← litB_take_rev _ _ _ hlt, ← byte_mod] at hs
      have HS := Lib.hid hs
      have HD := Lib.hid (div_step n r)
      clear hs
      obtain ⟨q, hqq⟩ : ∃ q, q = n / 256 ^ r := ⟨_, rfl⟩
      rw [← hqq] at HS HD hq ⊢
      clear hqq
      go_wp2
      go_roundw
      case rel => exact ⟨r + 1, by omega, by go_num, by rw [← HD.out], by exact HS.out, hbel.setCell (Nat.le_refl _) _⟩
      case measure => simp [intOf]; omega
    · obtain rfl : r = k := by omega
      go_wp2
      go_ret
      refine ⟨_, rfl, own_of_blk (bigB_length _ _) hk ?_ hbel⟩
      rw [List.take_of_length_le (by rw [litB_length]; omega), Nat.sub_self] at hblk
      exact hblk

theorem gives_nil (w : World) : Gives w [] (.slice none 0 0) w := ⟨World.ownsRow_nil _ _ _ _, Below.refl _ _⟩
def putB (n : Nat) (size : Int) : List UInt8 := if putErr n size = 0 then bigB n size.toNat else []

end Go.Proofs.YthafhghnciofaaaDoor
