/-
 THE FAST TRANSFORM, layer by layer: a block of L numbers is the remainder modulo X^L - r.
-/
import Derived.Test.YtfcgdjgfdbcddaaRg3
namespace Go.Proofs.Ytfcgdjgfdbcddaa
set_option maxRecDepth 100000
/-- number i of the remainder modulo X^L - r of a polynomial of L * J numbers -/
def blk (L J : Nat) (r : Int) (a : Nat → Int) (i : Nat) : Int := rS J (fun j => a (i + L * j) * r ^ j)
theorem blk_one (L : Nat) (r : Int) (a : Nat → Int) (i : Nat) : blk L 1 r a i = a i := by
 unfold blk
 show 0 + a (i + L * 0) * r ^ 0 = a i
 rw [Int.pow_zero, Nat.mul_zero, Nat.add_zero]
 omega
theorem blk_even (g : Int) (a : Nat → Int) : blk 2 128 g a 0 = evP g a := rS_congr fun j _ => by rw [Nat.zero_add]
theorem blk_odd (g : Int) (a : Nat → Int) : blk 2 128 g a 1 = odP g a := rS_congr fun j _ => by rw [Nat.add_comm 1]
/-- a block parts into two -/
theorem blk_split (L J : Nat) {s r : Int} (h : rM (s * s) r) (a : Nat → Int) (i : Nat) : rM (blk L (2 * J) s a i) (blk (2 * L) J r a i + s * blk (2 * L) J r a (i + L)) := by
 unfold blk
 rw [rS_two, ← rS_mul]
 refine rM.add (rM_S fun j _ => ?_) (rM_S fun j _ => ?_)
 ·rw [show i + L * (2 * j) = i + 2 * L * j by grind, Int.pow_mul]
  exact (rM.of rfl).mul (rM.pow (by rw [show s ^ 2 = s * s by grind]; exact h) j)
 ·rw [show i + L * (2 * j + 1) = i + L + 2 * L * j by grind, Int.pow_succ, Int.pow_mul]
  refine ((rM.of rfl).mul ((rM.pow (by rw [show s ^ 2 = s * s by grind]; exact h) j).mul (rM.of rfl))).trans (rM.of ?_)
  grind
theorem blk_split' (L J : Nat) {s r : Int} (h : rM (s * s) r) (a : Nat → Int) (i : Nat) : rM (blk L (2 * J) (-s) a i) (blk (2 * L) J r a i - s * blk (2 * L) J r a (i + L)) := by
 refine (blk_split L J (s := -s) (by rw [show -s * -s = s * s by grind]; exact h) a i).trans (rM.of ?_)
 grind
/-- two halves are put together: twice the block -/
theorem blk_join (L J : Nat) {s r : Int} (h : rM (s * s) r) (a : Nat → Int) (i : Nat) : rM (blk L (2 * J) s a i + blk L (2 * J) (-s) a i) (2 * blk (2 * L) J r a i) :=
 ((blk_split L J h a i).add (blk_split' L J h a i)).trans (rM.of (by omega))
theorem blk_join' (L J : Nat) {s r t : Int} (h : rM (s * s) r) (ht : rM (s * t) 1) (a : Nat → Int) (i : Nat) : rM ((blk L (2 * J) s a i - blk L (2 * J) (-s) a i) * t) (2 * blk (2 * L) J r a (i + L)) := by
 refine (((blk_split L J h a i).sub (blk_split' L J h a i)).mul (rM.of rfl)).trans ?_
 refine rM.trans (rM.of (show _ = 2 * blk (2 * L) J r a (i + L) * (s * t) by grind)) ?_
 refine ((rM.of rfl).mul ht).trans (rM.of (by omega))
end Go.Proofs.Ytfcgdjgfdbcddaa
