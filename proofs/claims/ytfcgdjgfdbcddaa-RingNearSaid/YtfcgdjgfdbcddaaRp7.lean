/-
 A NEW VARIABLE OF THE TYPE Poly: laid and filled in one step.
-/
import Derived.Test.YtfcgdjgfdbcddaaRq8
namespace Go.Proofs.Ytfcgdjgfdbcddaa
open Go.RowKit
set_option maxRecDepth 100000
section
variable {ops : Array Oper} {rest : List Oper} {o1 o2 : Oper} {a : Act} {w : World} {Q : Exit → Act → World → Prop} {y : Operand}
theorem wl_newP (d : Nat) (q : Nat → Nat) (hg1 : o1.guard = none) (hg2 : o2.guard = none) (hd : o1.dst = some d) (hd2 : o2.dst = none) (h1 : o1.op = .alloc 24) (h2 : o2.op = .store 24 (.tmp d) y)
 (hx : (a.put (some d) (.pointer (some ⟨w.heap.size, 0, none⟩))).eval (.tmp d) = .pointer (some ⟨w.heap.size, 0, none⟩)) (hy : (a.put (some d) (.pointer (some ⟨w.heap.size, 0, none⟩))).eval y = .agg (pc q).toArray)
 (h : ∀ g w2, Shh (g = w.heap.size) → Row w2 g 24 (pc q) → Below w.heap.size w w2 → wpList Try.prog ops Q rest (a.put (some d) (.pointer (some ⟨g, 0, none⟩))) w2) : wpList Try.prog ops Q (o1 :: o2 :: rest) a w := by
 refine wl_allocP hg1 h1 ?_
 rw [hd]
 refine wpList_store_any hg2 24 (.tmp d) y h2 w.heap.size hx (pc q) hy 24 (pc fun _ => 0) (Row.new_ rfl rfl) (info_poly.trans (size_poly q)) (by rw [pc_length, pc_length]) (pc_one q) ?_
 intro w2 r b z
 rw [hd2]
 exact h _ w2 ⟨rfl⟩ r ((bel1 w _).trans (b.under (by rw [asz]; omega) (Nat.le_refl _)))
end
end Go.Proofs.Ytfcgdjgfdbcddaa
