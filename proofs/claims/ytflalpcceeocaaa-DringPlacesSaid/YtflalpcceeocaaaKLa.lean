import Derived.Test.YtflalpcceeocaaaMA
import Derived.Test.YtflalpcceeocaaaKMa
import Derived.BigQuiet
import Derived.Deep.QuietTactic
import Derived.Test.YtflalpcceeocaaaHand
import Derived.StillTailTactics
import Derived.Test.YtflalpcceeocaaaMC
import Derived.Test.YtflalpcceeocaaaHand2
/-
 WALKS: bits.RotateLeft64, keccak.left, keccak.shift, keccak.chi.
-/
namespace Go.Proofs.Ytflalpcceeocaaa
open Go.RowKit
set_option maxRecDepth 100000

/-- a word is handed back, nothing else has turned -/
def LaneIs (w : World) (x : UInt64) (e : Ending) (w' : World) : Prop := e = .returned ((.int .u64 (x.toNat : Int))) ∧ w' = w

theorem and63 : ∀ n : Fin 64, bits .and .u64 (IntKind.u64.wrap (n.val : Int)) 63 = (n.val : Int) := by decide +kernel
theorem low63 (n : Nat) (h2 : n ≤ 63) : bits .and .u64 (n : Int) 63 = (n : Int) := by
 have := and63 ⟨n, by omega⟩
 simp only at this
 rwa [wraps_u64 _ (by omega) (by omega)] at this
/-- five words are handed back, nothing else has turned -/
def FiveIs (w : World) (b0 b1 b2 b3 b4 : UInt64) (e : Ending) (w' : World) : Prop := e = .returned (.tuple #[.int .u64 (b0.toNat : Int), .int .u64 (b1.toNat : Int), .int .u64 (b2.toNat : Int), .int .u64 (b3.toNat : Int), .int .u64 (b4.toNat : Int)]) ∧ w' = w
end Go.Proofs.Ytflalpcceeocaaa

/-
 STEPS BY HAND in a region that only reads and makes quiet calls, up to a forced tail.
-/
namespace Go.Proofs.Ytflalpcceeocaaa
open Go.RowKit
set_option maxRecDepth 100000
section
variable {P : Program} {ops : Array Oper} {w : World} {Q : Act → Prop} {a : Act} {o : Oper} {rest : List Oper}

theorem still_value (v : Value) (hgd : o.guard = none) (hrun : (execOp a.eval o).run P w = .ok (.value v) w) (h : wpStill P ops w Q rest (a.put o.dst v)) : wpStill P ops w Q (o :: rest) a := by
 refine wpStill_step fun K hK => ?_
 rw [if_pos (by simp [Region.wanted, hgd])]
 unfold Oper.still
 rw [hrun, Oper.stillUpon_value]
 exact hK _ h
theorem still_call (f : FuncId) (args : Array Value) (v : Value) (hgd : o.guard = none) (hrun : (execOp a.eval o).run P w = .ok (.enter f args) w) (hc : Calls P f args w fun e w' => e = .returned v ∧ w' = w) (h : wpStill P ops w Q rest (a.put o.dst v)) : wpStill P ops w Q (o :: rest) a := by
 refine wpStill_step fun K hK => ?_
 rw [if_pos (by simp [Region.wanted, hgd])]
 unfold Oper.still
 rw [hrun]
 exact ⟨rfl, v, hc, hK _ h⟩
theorem run_load1 {ty : TypeId} {k : IntKind} {x : Operand} {v : Value} {b p : Nat} (ho : o.op = .load ty x) (hu : P.underlying ty = some (.int k)) (hx : a.eval x = .pointer (some ⟨b, p, none⟩)) (hc : w.cell? ⟨b, p, none⟩ = some v) : (execOp a.eval o).run P w = .ok (.value v) w := by
 unfold execOp
 simp only [ho, hx]
 have h1 : (isAgg ty).run P w = .ok false w := by
  unfold isAgg
  rw [Sem.run_bind, run_underlying hu w]
  rfl
 simp [Instr.loadAt, Instr.sureAddr, loadVar, h1, go_sem, hc]
theorem run_xorL {x y : Operand} {t u : TypeId} {p q : UInt64} (ho : o.op = .binOp .xor t x y u) (hx : a.eval x = .int .u64 (p.toNat : Int)) (hy : a.eval y = .int .u64 (q.toNat : Int)) : (execOp a.eval o).run P w = .ok (.value (.int .u64 ((p ^^^ q).toNat : Int))) w := by
 have h := u64_xor p q
 unfold execOp
 simp only [ho, hx, hy]
 simp [go_sem, h]
end
end Go.Proofs.Ytflalpcceeocaaa

/-
 LANES: cells of lanes; steps by hand in a plain region.
-/
namespace Go.Proofs.Ytflalpcceeocaaa
open Go.RowKit
set_option maxRecDepth 100000

theorem laneCells_length (l : List UInt64) : (laneCells l).length = l.length := by simp [laneCells]
theorem laneCells_get (l : List UInt64) (k : Nat) (h : k < l.length) : (laneCells l)[k]? = some (.int .u64 (l[k].toNat : Int)) := by
 simp [laneCells, List.getElem?_eq_getElem h]
theorem laneCells_lane (l : List UInt64) (k : Nat) (h : k < l.length) : (laneCells l)[k]? = some (.int .u64 ((lane l k).toNat : Int)) := by
 rw [laneCells_get l k h, lane, kgetD_get l k 0 h]
theorem laneCells_set (l : List UInt64) (k : Nat) (x : UInt64) : (laneCells l).set k (.int .u64 (x.toNat : Int)) = laneCells (l.set k x) := by
 simp [laneCells, List.map_set]
theorem cell_oneLane (l : List UInt64) : ∀ u ∈ laneCells l, u.oneCell' = true := by
 intro u hu
 simp only [laneCells, List.mem_map] at hu
 obtain ⟨b, _, rfl⟩ := hu
 rfl
theorem zero25 : (#[.int .u64 0, .int .u64 0, .int .u64 0, .int .u64 0, .int .u64 0, .int .u64 0, .int .u64 0, .int .u64 0, .int .u64 0, .int .u64 0, .int .u64 0, .int .u64 0, .int .u64 0, .int .u64 0, .int .u64 0, .int .u64 0, .int .u64 0, .int .u64 0, .int .u64 0, .int .u64 0, .int .u64 0, .int .u64 0, .int .u64 0, .int .u64 0, .int .u64 0] : Array Value) = (laneCells (List.replicate 25 0)).toArray := by rfl
theorem size_lanes (n : Nat) (l : List UInt64) (h : l.length = n) : some n = some (laneCells l).length := by rw [laneCells_length, h]
/-- an array of lanes is handed back; nothing that was there has turned -/
def LanesIs (w : World) (l : List UInt64) (e : Ending) (w' : World) : Prop := e = .returned (.agg (laneCells l).toArray) ∧ Below w.heap.size w w'


section
variable {P : Program} {ops : Array Oper} {w : World} {Q : Exit → Act → World → Prop} {a : Act} {o : Oper} {rest : List Oper}
theorem wl_value (v : Value) (hgd : o.guard = none) (hrun : (execOp a.eval o).run P w = .ok (.value v) w) (h : wpList P ops Q rest (a.put o.dst v) w) : wpList P ops Q (o :: rest) a w := by
 refine wpList_plain hgd fun K hK => ?_
 unfold Oper.wp
 rw [hrun]
 exact hK _ _ h
theorem wl_valueW (v : Value) (w' : World) (hgd : o.guard = none) (hrun : (execOp a.eval o).run P w = .ok (.value v) w') (h : wpList P ops Q rest (a.put o.dst v) w') : wpList P ops Q (o :: rest) a w := by
 refine wpList_plain hgd fun K hK => ?_
 unfold Oper.wp
 rw [hrun]
 exact hK _ _ h
theorem wl_call (f : FuncId) (args : Array Value) (v : Value) (hgd : o.guard = none) (hrun : (execOp a.eval o).run P w = .ok (.enter f args) w) (hc : Calls P f args w fun e w' => e = .returned v ∧ w' = w) (h : wpList P ops Q rest (a.put o.dst v) w) : wpList P ops Q (o :: rest) a w := by
 refine wpList_plain hgd fun K hK => ?_
 unfold Oper.wp
 rw [hrun, Oper.upon_enter]
 refine hc.mono fun e w' he => ?_
 obtain ⟨rfl, rfl⟩ := he
 exact hK _ _ h
end
end Go.Proofs.Ytflalpcceeocaaa
