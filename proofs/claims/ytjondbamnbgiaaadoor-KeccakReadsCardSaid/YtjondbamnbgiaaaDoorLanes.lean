/-
  LANES: cells of lanes; steps by hand in a plain region.
-/
import Derived.Test.YtjondbamnbgiaaaDoorLeft
import Derived.Test.YtjondbamnbgiaaaDoorStill
import Derived.Test.YtjondbamnbgiaaaDoorParts
import Derived.Test.YtjondbamnbgiaaaDoorHand2
namespace Go.Proofs.YtjondbamnbgiaaaDoor
open Go.RowKit
set_option maxRecDepth 100000

theorem laneCells_length (l : List UInt64) : (laneCells l).length = l.length := by simp [laneCells]
theorem laneCells_get (l : List UInt64) (k : Nat) (h : k < l.length) : (laneCells l)[k]? = some (.int .u64 (l[k].toNat : Int)) := by
  simp [laneCells, List.getElem?_eq_getElem h]
theorem laneCells_lane (l : List UInt64) (k : Nat) (h : k < l.length) : (laneCells l)[k]? = some (.int .u64 ((lane l k).toNat : Int)) := by
  rw [laneCells_get l k h, lane, getD_get l k 0 h]
theorem laneCells_set (l : List UInt64) (k : Nat) (x : UInt64) : (laneCells l).set k (.int .u64 (x.toNat : Int)) = laneCells (l.set k x) := by
  simp [laneCells, List.map_set]
theorem cell_oneLane (l : List UInt64) : ∀ u ∈ laneCells l, u.oneCell' = true := by
  intro u hu
  simp only [laneCells, List.mem_map] at hu
  obtain ⟨b, _, rfl⟩ := hu
  rfl
theorem zero25 : (#[.int .u64 0, .int .u64 0, .int .u64 0, .int .u64 0, .int .u64 0, .int .u64 0, .int .u64 0, .int .u64 0, .int .u64 0, .int .u64 0, .int .u64 0, .int .u64 0, .int .u64 0, .int .u64 0, .int .u64 0, .int .u64 0, .int .u64 0, .int .u64 0, .int .u64 0, .int .u64 0, .int .u64 0, .int .u64 0, .int .u64 0, .int .u64 0, .int .u64 0] : Array Value) = (laneCells (List.replicate 25 0)).toArray := by rfl
theorem info_l25 : (Tryd.prog.info? 23).map (·.size) = some 25 := by kernel_rfl
theorem size_lanes (n : Nat) (l : List UInt64) (h : l.length = n) : some n = some (laneCells l).length := by rw [laneCells_length, h]
/-- an array of lanes is handed back; nothing that was there has turned -/
def LanesIs (w : World) (l : List UInt64) (e : Ending) (w' : World) : Prop := e = .returned (.agg (laneCells l).toArray) ∧ Below w.heap.size w w'


section
variable {P : Program} {ops : Array Oper} {w : World} {Q : Exit → Act → World → Prop} {a : Act} {o : Oper} {rest : List Oper}
theorem wl_value (v : Value) (hgd : o.guard = none) (hrun : (execOp a.eval o).run P w = .ok (.value v) w) (h : wpList P ops Q rest (a.put o.dst v) w) : wpList P ops Q (o :: rest) a w := by
  refine wpList_plain hgd fun K hK => ?_
  unfold Oper.wp
  rw [hrun]
  exact hK _ _ h
theorem wl_valueW (v : Value) (w' : World) (hgd : o.guard = none) (hrun : (execOp a.eval o).run P w = .ok (.value v) w') (h : wpList P ops Q rest (a.put o.dst v) w') : wpList P ops Q (o :: rest) a w := by
  refine wpList_plain hgd fun K hK => ?_
  unfold Oper.wp
  rw [hrun]
  exact hK _ _ h
theorem wl_call (f : FuncId) (args : Array Value) (v : Value) (hgd : o.guard = none) (hrun : (execOp a.eval o).run P w = .ok (.enter f args) w) (hc : Calls P f args w fun e w' => e = .returned v ∧ w' = w) (h : wpList P ops Q rest (a.put o.dst v) w) : wpList P ops Q (o :: rest) a w := by
  refine wpList_plain hgd fun K hK => ?_
  unfold Oper.wp
  rw [hrun, Oper.upon_enter]
  refine hc.mono fun e w' he => ?_
  obtain ⟨rfl, rfl⟩ := he
  exact hK _ _ h
end
end Go.Proofs.YtjondbamnbgiaaaDoor
