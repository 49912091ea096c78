/-
  WALKS: slices.Reverse on a block of bytes; octet.bigBytes and the functions above it.
-/
import Derived.Test.YtjondbamnbgiaaaDoorInts
import Derived.RegionTactic
import Derived.ChangeAlike
namespace Go.Proofs.YtjondbamnbgiaaaDoor
open Go.RowKit
set_option maxRecDepth 100000

/-- bs with its first k and its last k bytes exchanged -/
def revK (bs : List UInt8) (k : Nat) : List UInt8 := (List.range bs.length).map fun i => if i < k ∨ bs.length - k ≤ i then bs.getD (bs.length - 1 - i) 0 else bs.getD i 0
theorem revK_length (bs : List UInt8) (k : Nat) : (revK bs k).length = bs.length := by simp [revK]
theorem revK_get (bs : List UInt8) (k i : Nat) (h : i < (revK bs k).length) : (revK bs k)[i] = if i < k ∨ bs.length - k ≤ i then bs.getD (bs.length - 1 - i) 0 else bs.getD i 0 := by
  simp [revK]
theorem revK_zero (bs : List UInt8) : revK bs 0 = bs := by
  apply List.ext_getElem (by rw [revK_length])
  intro i h1 h2
  rw [revK_get, if_neg (by omega)]
  simp [List.getD, List.getElem?_eq_getElem h2]
theorem revK_end (bs : List UInt8) (k : Nat) (h : bs.length ≤ 2 * k + 1) : revK bs k = bs.reverse := by
  apply List.ext_getElem (by rw [revK_length, List.length_reverse])
  intro i h1 h2
  rw [revK_length] at h1
  rw [revK_get, List.getElem_reverse]
  by_cases hc : i < k ∨ bs.length - k ≤ i
  · rw [if_pos hc]
    simp [List.getD, List.getElem?_eq_getElem (show bs.length - 1 - i < bs.length by omega)]
  · rw [if_neg hc]
    have : bs.length - 1 - i = i := by omega
    simp only [this]
    simp [List.getD, List.getElem?_eq_getElem h1]
theorem revK_step (bs : List UInt8) (k : Nat) (h : 2 * k + 1 < bs.length) :
    ((revK bs k).set k (bs[bs.length - 1 - k]'(by omega))).set (bs.length - 1 - k) (bs[k]'(by omega)) = revK bs (k + 1) := by
  apply List.ext_getElem (by simp [revK_length])
  intro i h1 h2
  rw [revK_length] at h2
  rw [revK_get]
  by_cases e1 : bs.length - 1 - k = i
  · subst e1
    rw [List.getElem_set_self, if_pos (by omega)]
    have : bs.length - 1 - (bs.length - 1 - k) = k := by omega
    rw [this]
    simp [List.getD, List.getElem?_eq_getElem (show k < bs.length by omega)]
  · rw [List.getElem_set_ne e1]
    by_cases e2 : k = i
    · subst e2
      rw [List.getElem_set_self, if_pos (by omega)]
      simp [List.getD, List.getElem?_eq_getElem (show bs.length - 1 - k < bs.length by omega)]
    · rw [List.getElem_set_ne e2, revK_get]
      by_cases hc : i < k ∨ bs.length - k ≤ i
      · rw [if_pos hc, if_pos (by omega)]
      · rw [if_neg hc, if_neg (by omega)]
theorem revK_get_mid (bs : List UInt8) (k i : Nat) (h1 : k ≤ i) (h2 : i < bs.length - k) : (revK bs k)[i]'(by rw [revK_length]; omega) = bs[i]'(by omega) := by
  rw [revK_get, if_neg (by omega)]
  simp [List.getD, List.getElem?_eq_getElem (show i < bs.length by omega)]

/-- What a function hands back that made a slice of its own. -/
def Gives (w : World) (bs : List UInt8) (v : Value) (w' : World) : Prop :=
  w'.ownsRow w.heap.size 5 1 v bs.length (Lib.byteCells bs) ∧ Below w.heap.size w w'

theorem own_of_blk {w w' : World} {bs : List UInt8} {k : Nat} (hk : bs.length = k) (hm : k ≤ 8) (h : Blk w' w.heap.size bs) (hb : Below w.heap.size w w') : Gives w bs (.slice (some ⟨w.heap.size, 0, none⟩) k k) w' := by
  subst hk
  exact ⟨h.own (Nat.le_refl _) (by unfold maxLen; omega), hb⟩

theorem long_iff (n k : Nat) : (((n : Int) / 2 ^ (8 * (k : Int)).toNat) != 0) = decide (256 ^ k ≤ n) := by
  have e : (8 * (k : Int)).toNat = 8 * k := by omega
  have h2 : ((2 : Int) ^ (8 * k)) = ((256 ^ k : Nat) : Int) := by rw [← pow8]; simp
  rw [e, h2, ← Int.natCast_ediv]
  have hp : 0 < 256 ^ k := Nat.pow_pos (by decide)
  by_cases h : 256 ^ k ≤ n
  · rw [decide_eq_true h, bne_iff_ne]
    have := Nat.div_pos h hp
    omega
  · rw [decide_eq_false h]
    rw [Nat.div_eq_of_lt (by omega)]
    rfl

/-! Big and Little: the error, or the bytes. -/
def putErr (n : Nat) (size : Int) : Int := if size < 1 ∨ 8 < size then 1 else if 256 ^ size.toNat ≤ n then 3 else 0
end Go.Proofs.YtjondbamnbgiaaaDoor
