/-
  FOUNDATIONS, merged: see the heads of the parts.
-/
import Derived.Test.YthahnckjmlcehaaMC
/-
  WALKS: sha2.keyBlock, masked, Mac, Extract.
-/
namespace Go.Proofs.Ythahnckjmlcehaa
open Go.RowKit
set_option maxRecDepth 100000

theorem keyB_long (k : List UInt8) (h : 64 < k.length) : keyB k = sha k ++ List.replicate (64 - (sha k).length) 0 := by unfold keyB; simp [h]
theorem keyB_short (k : List UInt8) (h : ¬ 64 < k.length) : keyB k = k ++ List.replicate (64 - k.length) 0 := by unfold keyB; simp [h]
theorem flat_one (k : List UInt8) : [k].flatten = k := by simp

end Go.Proofs.Ythahnckjmlcehaa

/-
  WALK: sha2.masked.
-/
namespace Go.Proofs.Ythahnckjmlcehaa
open Go.RowKit
set_option maxRecDepth 100000

theorem xorB_length (k : List UInt8) (c : UInt8) : (xorB k c).length = k.length := by simp [xorB]
end Go.Proofs.Ythahnckjmlcehaa

/-
  WALKS: sha2.Mac, Extract.
-/
namespace Go.Proofs.Ythahnckjmlcehaa
open Go.RowKit
set_option maxRecDepth 100000

end Go.Proofs.Ythahnckjmlcehaa

/-
  WALKS: sha2.Expand; the law's 'few'.
-/
namespace Go.Proofs.Ythahnckjmlcehaa
open Go.RowKit
set_option maxRecDepth 100000

theorem own_step {w w' : World} {base : Nat} {e : TypeId} {v : Value} {n : Nat} {xs : List Value} (h : w.ownsRow base e 1 v n xs) (hb : Below w.heap.size w w') : w'.ownsRow base e 1 v n xs := by
  refine ⟨h.1, ?_⟩
  rcases h.2 with h0 | ⟨g, cap, cur, hv, hg, hr, hrest⟩
  · exact .inl h0
  · exact .inr ⟨g, cap, cur, hv, hg, (hb.block g (Array.getElem?_eq_some_iff.1 hr).1).trans hr, hrest⟩
/-- at most 40 texts of at most 3000 bytes each -/
def fewB (bss : List (List UInt8)) : Bool := bss.all (fun b => decide (b.length ≤ 3000)) && decide (bss.length ≤ 40)
theorem few_no (bss : List (List UInt8)) (k : Nat) (h : k < bss.length) (hb : 3000 < bss[k].length) : fewB bss = false := by
  unfold fewB
  have : bss.all (fun b => decide (b.length ≤ 3000)) = false := by
    rw [List.all_eq_false]
    exact ⟨bss[k], List.getElem_mem h, by simp; omega⟩
  rw [this]; rfl
theorem few_yes {bss : List (List UInt8)} (h : fewB bss = true) : (∀ b ∈ bss, b.length ≤ 3000) ∧ bss.length ≤ 40 := by
  unfold fewB at h
  simp only [Bool.and_eq_true, List.all_eq_true, decide_eq_true_eq] at h
  exact h
end Go.Proofs.Ythahnckjmlcehaa
