/-
  THE WALK of the document's own Xor; the bytes of the bits of bytes.
-/
import Derived.Test.YtijkhpiehaocpaaDoorFrom
import Derived.Deep.RegionLaw
namespace Go.Proofs.YtijkhpiehaocpaaDoor
open Go.RowKit
set_option maxRecDepth 100000

theorem bitAt_test (b : UInt8) (i : Nat) : bitAt b i = b.toNat.testBit i := by
  unfold bitAt
  rw [Nat.testBit_eq_decide_div_mod_eq]
theorem bits8_xor (a b : UInt8) : List.zipWith (fun p q => p != q) (bits8 a) (bits8 b) = bits8 (a ^^^ b) := by
  unfold bits8
  apply List.ext_getElem (by simp)
  intro i h1 h2
  simp only [List.getElem_zipWith, List.getElem_map, List.getElem_range, bitAt_test, UInt8.toNat_xor, Nat.testBit_xor]
theorem bitsL_xor (us bs : List UInt8) (h : us.length = bs.length) : List.zipWith (fun p q => p != q) (bitsL us) (bitsL bs) = bitsL (List.zipWith (· ^^^ ·) us bs) := by
  induction us generalizing bs with
  | nil => simp [bitsL]
  | cons a r ih =>
    cases bs with
    | nil => simp at h
    | cons b s =>
      have e1 : bitsL (a :: r) = bits8 a ++ bitsL r := by simp [bitsL]
      have e2 : bitsL (b :: s) = bits8 b ++ bitsL s := by simp [bitsL]
      have e3 : bitsL ((a ^^^ b) :: List.zipWith (· ^^^ ·) r s) = bits8 (a ^^^ b) ++ bitsL (List.zipWith (· ^^^ ·) r s) := by simp [bitsL]
      rw [e1, e2, List.zipWith_cons_cons, e3, List.zipWith_append (by rw [bits8_length, bits8_length]), bits8_xor, ih s (by simpa using h)]
theorem valB_bits8 (b : UInt8) : UInt8.ofNat (valB (bits8 b)) = b := by
  have key : ∀ n : Fin 256, UInt8.ofNat (valB (bits8 (UInt8.ofNat n.val))) = UInt8.ofNat n.val := by decide +kernel
  have e : UInt8.ofNat b.toNat = b := by simp
  have := key ⟨b.toNat, b.toNat_lt⟩
  simp only [e] at this
  exact this
theorem chunk_bitsL (bs : List UInt8) (j : Nat) (h : j < bs.length) : chunk (bitsL bs) j = bits8 bs[j] := by
  induction bs generalizing j with
  | nil => simp at h
  | cons b r ih =>
    have e1 : bitsL (b :: r) = bits8 b ++ bitsL r := by simp [bitsL]
    rw [e1]
    cases j with
    | zero =>
      unfold chunk
      rw [Nat.mul_zero, List.drop_zero, List.take_append_of_le_length (by rw [bits8_length]; omega), List.take_of_length_le (by rw [bits8_length]; omega)]
      rfl
    | succ j =>
      have := ih j (by simpa using h)
      unfold chunk at this ⊢
      rw [show 8 * (j + 1) = (bits8 b).length + 8 * j by rw [bits8_length]; omega, ← List.drop_drop, List.drop_left, this]
      rfl
theorem fromBits_bitsL (bs : List UInt8) : fromBits (bitsL bs) = bs := by
  apply List.ext_getElem (by rw [fromBits_length, bitsL_length]; omega)
  intro j h1 h2
  have h := fromN_get (bitsL bs) (((bitsL bs).length + 7) / 8) j h1
  rw [chunk_bitsL bs j h2, valB_bits8] at h
  exact h

theorem own_base {w : World} {base base' : Nat} {e : TypeId} {v : Value} {n : Nat} {xs : List Value} (h : w.ownsRow base e 1 v n xs) (hb : base' ≤ base) : w.ownsRow base' e 1 v n xs := by
  refine ⟨h.1, ?_⟩
  rcases h.2 with hn | ⟨g, cap, cur, hv, hg, rest⟩
  · exact .inl hn
  · exact .inr ⟨g, cap, cur, hv, by omega, rest⟩

end Go.Proofs.YtijkhpiehaocpaaDoor
