/-
  WALKS: the document's own Unhex: at every string, valid or not.
-/
import Derived.Test.YtijkhpiehaocpaaDoorRefHex
namespace Go.Proofs.YtijkhpiehaocpaaDoor
open Go.RowKit
set_option maxRecDepth 100000

theorem nib_sum (a b : Nat) (ha : a < 16) (hb : b < 16) : (16 * (a : Int) + (b : Int)) = ((UInt8.ofNat (16 * a + b)).toNat : Int) := by
  have : (UInt8.ofNat (16 * a + b)).toNat = 16 * a + b := by simp; omega
  rw [this]; omega

end Go.Proofs.YtijkhpiehaocpaaDoor
