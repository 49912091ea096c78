/-
 STEPS BY HAND, stores: a whole row; one cell.
-/
import Derived.Test.YtpajdmbajopofaaMB
import Derived.Test.YtpajdmbajopofaaHand
namespace Go.Proofs.Ytpajdmbajopofaa
open Go.RowKit
set_option maxRecDepth 100000
section
variable {P : Program} {md : Region.Mode} {ops : Array Oper} {Q : Exit → Act → World → Prop} {S : World → Prop} {fuel : Nat} {listed : Array Bool} {a : Act} {w : World}
theorem step_storeRow (i : Nat) (ty : TypeId) (x y : Operand) (hop : (ops[i]?).map (fun o => (o.op, o.dst)) = some (.store ty x y, none)) (hw : (ops[i]?).map (fun o => Region.wanted o (yielded ops a.tmps)) = some true)
  (g : Nat) (hx : a.eval x = .pointer (some ⟨g, 0, none⟩)) (ds : List Value) (hy : a.eval y = .agg ds.toArray) (t : TypeId) (cs : List Value) (hr : Row w g t cs) (hi : (P.info? ty).map (·.size) = some ds.length)
  (hold : cs.length = ds.length) (h1 : ∀ u ∈ ds, u.oneCell' = true)
  (h : ∀ w2, Row w2 g t ds → But w.heap.size g w w2 → w2.heap.size = w.heap.size → S w2 ∧ wpAnyH P md ops Q S fuel (listed.setIfInBounds i true) a w2) : HStep P md ops Q S fuel listed a w i := by
 unfold HStep
 cases ho : ops[i]? with
 | none => rw [ho] at hop; cases hop
 | some op =>
  rw [ho] at hop hw
  simp only [Option.map_some, Option.some.injEq, Prod.mk.injEq] at hop hw
  refine wpOp_step ho fun K' hK => ?_
  rw [if_pos hw]
  refine wp_store_row ty x y hop.1 g ds.toArray hx hy t cs.toArray hr (by simpa using hi) (by simpa using hold) (all_oneCell_toArray h1) (hK _ _ ?_)
  rw [hop.2]
  exact h _ (hr.setRow ds) ⟨rfl, rfl, rfl, Nat.le_of_eq (by simp), fun k _ hk => Go.setRow_other w g k _ hk⟩ (by simp)
theorem step_store1 (i : Nat) (opv : Op) (hop : (ops[i]?).map (fun o => (o.op, o.type, o.dst)) = some (opv, 0, none)) (hw : (ops[i]?).map (fun o => Region.wanted o (yielded ops a.tmps)) = some true)
  (w' : World) (hrun : (execOp a.eval ⟨none, opv, 0, "", #[], none⟩).run P w = .ok .skip w') (h : S w' ∧ wpAnyH P md ops Q S fuel (listed.setIfInBounds i true) a w') : HStep P md ops Q S fuel listed a w i := by
 unfold HStep
 cases ho : ops[i]? with
 | none => rw [ho] at hop; cases hop
 | some op =>
  rw [ho] at hop hw
  simp only [Option.map_some, Option.some.injEq, Prod.mk.injEq] at hop hw
  obtain ⟨dst', op', ty', pos', after', guard'⟩ := op
  obtain ⟨rfl, rfl, rfl⟩ := hop
  have hrun' : (execOp a.eval ⟨none, op', 0, pos', after', guard'⟩).run P w = .ok .skip w' := by
   rw [← hrun]
   unfold execOp
   rfl
  refine wpOp_step ho fun K' hK => ?_
  rw [if_pos hw]
  unfold Oper.wp
  rw [hrun']
  exact hK _ _ h
end
end Go.Proofs.Ytpajdmbajopofaa
