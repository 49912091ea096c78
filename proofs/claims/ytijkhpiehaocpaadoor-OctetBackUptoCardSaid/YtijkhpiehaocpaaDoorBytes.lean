/-
  WALKS: octet.Same, octet.Choose, octet.Xor.
-/
import Derived.Test.YtijkhpiehaocpaaDoorLive
namespace Go.Proofs.YtijkhpiehaocpaaDoor
open Go.RowKit
set_option maxRecDepth 100000

theorem or_xor_zero (d a b : UInt8) : d ||| (a ^^^ b) = 0 ↔ d = 0 ∧ a = b := by
  rw [UInt8.or_eq_zero_iff, UInt8.xor_eq_zero_iff]
theorem and255 (a : UInt8) : bits .and .u8 (a.toNat : Int) 255 = a.toNat := by
  have h := u8_and a 255
  have e : a &&& 255 = a := by
    apply UInt8.toNat_inj.1
    rw [UInt8.toNat_and]
    show a.toNat &&& (2 ^ 8 - 1) = a.toNat
    rw [Nat.and_two_pow_sub_one_eq_mod]
    exact Nat.mod_eq_of_lt a.toNat_lt
  rw [e] at h
  exact h
theorem and0 (a : UInt8) : bits .and .u8 (a.toNat : Int) 0 = 0 := by
  have := u8_and a 0
  simpa using this
theorem andNot255 (a : UInt8) : bits .andNot .u8 (a.toNat : Int) 255 = 0 := by
  have h := u8_andNot a 255
  have e : a &&& ~~~255 = 0 := by
    have e2 : (~~~255 : UInt8) = 0 := by decide
    rw [e2]; simp
  rw [e] at h
  exact h
theorem andNot0 (a : UInt8) : bits .andNot .u8 (a.toNat : Int) 0 = a.toNat := by
  have h := u8_andNot a 0
  have e : a &&& ~~~0 = a := by
    have e2 : (~~~0 : UInt8) = 255 := by decide
    rw [e2]
    apply UInt8.toNat_inj.1
    rw [UInt8.toNat_and]
    show a.toNat &&& (2 ^ 8 - 1) = a.toNat
    rw [Nat.and_two_pow_sub_one_eq_mod]
    exact Nat.mod_eq_of_lt a.toNat_lt
  rw [e] at h
  exact h
theorem or0 (a : UInt8) : bits .or .u8 (a.toNat : Int) 0 = a.toNat := by
  have := u8_or a 0
  simpa using this
theorem zor (a : UInt8) : bits .or .u8 0 (a.toNat : Int) = a.toNat := by
  have := u8_or 0 a
  simpa using this

/-! Choose and Xor: the error, or the bytes -/
def pairE (us bs : List UInt8) : Int := if us.length = bs.length then 0 else 1
def chosen (first : Bool) (us bs : List UInt8) : List UInt8 := if us.length = bs.length then (if first then us else bs) else []
def xored (us bs : List UInt8) : List UInt8 := if us.length = bs.length then List.zipWith (· ^^^ ·) us bs else []

theorem gives_blk {w w' : World} {bs : List UInt8} {k : Nat} (hk : bs.length = k) (hm : k ≤ 1099511627776) (h : Blk w' w.heap.size bs) (hb : Below w.heap.size w w') : Gives w bs (.slice (some ⟨w.heap.size, 0, none⟩) k k) w' := by
  subst hk
  exact ⟨h.own (Nat.le_refl _) (by unfold maxLen; omega), hb⟩

end Go.Proofs.YtijkhpiehaocpaaDoor
