/-
  WALKS: octet.BigOf, octet.LittleOf; the document's own Big, Fits, Put, Number, Take, Turned, Equal.
-/
import Derived.Test.YtjondbamnbgiaaaDoorApp
import Derived.BigQuiet
import Derived.Deep.QuietTactic
namespace Go.Proofs.YtjondbamnbgiaaaDoor
open Go.RowKit
set_option maxRecDepth 100000

theorem bigN_take_lt (bs : List UInt8) (k : Nat) (h : k ≤ bs.length) : bigN (bs.take k) < 256 ^ k := by
  have := bigN_lt (bs.take k)
  rwa [List.length_take, Nat.min_eq_left h] at this
theorem litN_take_lt (bs : List UInt8) (k : Nat) (h : k ≤ bs.length) : litN (bs.take k) < 256 ^ k := by
  have := litN_lt (bs.take k)
  rwa [List.length_take, Nat.min_eq_left h] at this
theorem bigN_step (bs : List UInt8) (k : Nat) (h : k < bs.length) (h8 : bs.length ≤ 8) :
    bits .or .u64 (IntKind.u64.wrap ((bigN (bs.take k) : Int) * 256)) (IntKind.u64.wrap (bs[k].toNat : Int)) = (bigN (bs.take (k + 1)) : Int) := by
  have h1 := bigN_take_lt bs k (by omega)
  have h2 := pow256_le7 (show k ≤ 7 by omega)
  have h3 := bs[k].toNat_lt
  rw [take_snoc bs k h, bigN_snoc, u64_or8 _ _ (by omega) (by omega)]
theorem litN_step (bs : List UInt8) (k : Nat) (h : k < bs.length) (h8 : bs.length ≤ 8) :
    bits .or .u64 (litN (bs.take k) : Int) (IntKind.u64.wrap (IntKind.u64.wrap (bs[k].toNat : Int) * 2 ^ (8 * k))) = (litN (bs.take (k + 1)) : Int) := by
  have h1 := litN_take_lt bs k (by omega)
  have h3 := bs[k].toNat_lt
  rw [take_snoc bs k h, litN_snoc, u64_orHigh _ _ _ (by omega) (by omega) h1]
  simp [List.length_take, Nat.min_eq_left (show k ≤ bs.length by omega)]

/-- What BigOf answers: the integer and the error. -/
def ofN (bs : List UInt8) : Nat := if 1 ≤ bs.length ∧ bs.length ≤ 8 then bigN bs else 0
def ofE (bs : List UInt8) : Int := if 1 ≤ bs.length ∧ bs.length ≤ 8 then 0 else 1
theorem ofE_reverse (bs : List UInt8) : ofE bs.reverse = ofE bs := by simp [ofE]

theorem refEqual_any (B B' : Nat) (v v' : Value) (bs cs : List UInt8) (w : World) (h1 : Sl w B v bs) (h2 : Sl w B' v' cs) :
    Calls Tryd.prog 19 #[v, v'] w fun e w' => e = .returned (.bool (bs == cs)) ∧ w = w' := by
  have hc1 := h1.conv Tryd.underlying29 Tryd.underlying5 Tryd.underlying9
  have hc2 := h2.conv Tryd.underlying29 Tryd.underlying5 Tryd.underlying9
  go_enter Tryd.func19, Tryd.ntmps19
  go_wp2
  go_ret
  exact ⟨rfl, rfl⟩
end Go.Proofs.YtjondbamnbgiaaaDoor
