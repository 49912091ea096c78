/-
 COMPRESSION: what is compressed and decompressed is near.
-/
import Derived.Test.YtfcgdjgfdbcddaaRg6
namespace Go.Proofs.Ytfcgdjgfdbcddaa
set_option maxRecDepth 100000
theorem near_all : ((List.range 11).all fun e => (List.range 3329).all fun x => decide (cmpN (e + 1) x < 2 ^ (e + 1) ∧ dcmN (e + 1) (cmpN (e + 1) x) < 3329 ∧ min ((dcmN (e + 1) (cmpN (e + 1) x) + 3329 - x) % 3329) (3329 - (dcmN (e + 1) (cmpN (e + 1) x) + 3329 - x) % 3329) ≤ (2 * 3329 + 2 ^ (e + 2)) / (2 * 2 ^ (e + 2)))) = true := by decide +kernel
end Go.Proofs.Ytfcgdjgfdbcddaa
