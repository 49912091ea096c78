/-
 COMPRESSION, number by number.
-/
import Derived.Test.YtfcgdjgfdbcddaaRg3
namespace Go.Proofs.Ytfcgdjgfdbcddaa
def cmpN (d x : Nat) : Nat := ((2 * x * 2 ^ d + 3329) / (2 * 3329)) % 2 ^ d
def dcmN (d y : Nat) : Nat := (2 * y * 3329 + 2 ^ d) / (2 * 2 ^ d)
theorem cmpN_lt (d x : Nat) : cmpN d x < 2 ^ d := Nat.mod_lt _ (Nat.two_pow_pos d)
theorem dcmN_lt (d y : Nat) (hd : d ≤ 12) (hy : y < 2 ^ d) : dcmN d y < 65536 := by
 unfold dcmN
 have h1 : 2 ^ d ≤ 2 ^ 12 := Nat.pow_le_pow_right (by decide) hd
 have h2 : 2 ^ 12 = 4096 := by decide
 have h0 := Nat.two_pow_pos d
 generalize 2 ^ d = P at *
 refine Nat.div_lt_of_lt_mul ?_
 have : P * 65536 ≥ P * 1 := Nat.mul_le_mul_left _ (by decide)
 have h3 : y * 3329 ≤ 4096 * 3329 := Nat.mul_le_mul_right _ (by omega)
 have h4 : y ≤ P - 1 := by omega
 have h5 : y * 3329 ≤ P * 3329 := Nat.mul_le_mul_right _ (by omega)
 rw [Nat.mul_assoc, Nat.mul_assoc]
 omega
def cmpP (d : Nat) (p : Nat → Nat) (k : Nat) : Nat := cmpN d (p k % 3329)
def dcmP (d : Nat) (p : Nat → Nat) (k : Nat) : Nat := dcmN d (p k % 2 ^ d)
end Go.Proofs.Ytfcgdjgfdbcddaa
