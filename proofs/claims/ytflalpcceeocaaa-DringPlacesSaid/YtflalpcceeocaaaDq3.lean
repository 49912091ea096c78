/-
 ROUNDING by the document: Power2Round and Decompose.
-/
import Derived.Test.YtflalpcceeocaaaDq2
namespace Go.Proofs.Ytflalpcceeocaaa
open Go.RowKit
set_option maxRecDepth 100000
theorem tmod_pos {x s : Int} (h : 0 ≤ x) : x.tmod s = x % s := Int.tmod_eq_emod_of_nonneg h
theorem tdiv_pos {x s : Int} (h : 0 ≤ x) : x.tdiv s = x / s := Int.tdiv_eq_ediv_of_nonneg h
/-- what the document's loop finds at one number -/
theorem low_cases (s hs x : Int) (hx : 0 ≤ x ∧ x < 8380417) (h2 : s / 2 = hs) (h0 : 0 < s ∧ s < 1000000) : ∃ m, (m = x.tmod s ∧ -2147483648 ≤ m ∧ m ≤ 2147483647) ∧ (hs < m → lowS s x = m - s ∧ -2147483648 ≤ lowS s x ∧ lowS s x ≤ 2147483647) ∧ (¬ hs < m → lowS s x = m) := by
 refine ⟨x % s, ⟨(tmod_pos hx.1).symm, ?_, ?_⟩, fun h => ?_, fun h => ?_⟩
 ·have := Int.emod_nonneg x (show s ≠ 0 by omega)
  omega
 ·have := Int.emod_lt_of_pos x h0.1
  omega
 ·have h1 : lowS s x = x % s - s := if_pos (by rw [h2]; exact h)
  have := Int.emod_nonneg x (show s ≠ 0 by omega)
  have := Int.emod_lt_of_pos x h0.1
  refine ⟨h1, by omega, by omega⟩
 ·exact if_neg (by rw [h2]; exact h)
theorem high_fact (s x : Int) (hx : 0 ≤ x ∧ x < 8380417) (hs : s = 8192 ∨ s = 523776) : ∃ d, (d = x - lowS s x ∧ -2147483648 ≤ d ∧ d ≤ 2147483647) ∧ highS s x = d.tdiv s ∧ -2147483648 ≤ highS s x ∧ highS s x ≤ 2147483647 := by
 rcases hs with rfl | rfl
 ·have h1 := highS_8192 x
  have h2 := lowS_8192 x
  have h3 : 0 ≤ x - lowS 8192 x := by unfold lowS; split <;> omega
  refine ⟨_, ⟨rfl, by omega, by omega⟩, ?_, by omega, by omega⟩
  rw [tdiv_pos h3]
  rfl
 ·have h1 := highS_523776 x
  have h2 := lowS_523776 x
  have h3 : 0 ≤ x - lowS 523776 x := by unfold lowS; split <;> omega
  refine ⟨_, ⟨rfl, by omega, by omega⟩, ?_, by omega, by omega⟩
  rw [tdiv_pos h3]
  rfl
end Go.Proofs.Ytflalpcceeocaaa
