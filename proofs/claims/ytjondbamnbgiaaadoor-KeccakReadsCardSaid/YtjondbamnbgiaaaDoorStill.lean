/-
  STEPS BY HAND in a region that only reads and makes quiet calls, up to a forced tail.
-/
import Derived.Test.YtjondbamnbgiaaaDoorHand
import Derived.Test.YtjondbamnbgiaaaDoorKMath
import Derived.StillTailTactics
namespace Go.Proofs.YtjondbamnbgiaaaDoor
open Go.RowKit
set_option maxRecDepth 100000
section
variable {P : Program} {ops : Array Oper} {w : World} {Q : Act → Prop} {a : Act} {o : Oper} {rest : List Oper}

theorem still_value (v : Value) (hgd : o.guard = none) (hrun : (execOp a.eval o).run P w = .ok (.value v) w) (h : wpStill P ops w Q rest (a.put o.dst v)) : wpStill P ops w Q (o :: rest) a := by
  refine wpStill_step fun K hK => ?_
  rw [if_pos (by simp [Region.wanted, hgd])]
  unfold Oper.still
  rw [hrun, Oper.stillUpon_value]
  exact hK _ h
theorem still_call (f : FuncId) (args : Array Value) (v : Value) (hgd : o.guard = none) (hrun : (execOp a.eval o).run P w = .ok (.enter f args) w) (hc : Calls P f args w fun e w' => e = .returned v ∧ w' = w) (h : wpStill P ops w Q rest (a.put o.dst v)) : wpStill P ops w Q (o :: rest) a := by
  refine wpStill_step fun K hK => ?_
  rw [if_pos (by simp [Region.wanted, hgd])]
  unfold Oper.still
  rw [hrun]
  exact ⟨rfl, v, hc, hK _ h⟩
theorem run_load1 {ty : TypeId} {k : IntKind} {x : Operand} {v : Value} {b p : Nat} (ho : o.op = .load ty x) (hu : P.underlying ty = some (.int k)) (hx : a.eval x = .pointer (some ⟨b, p, none⟩)) (hc : w.cell? ⟨b, p, none⟩ = some v) : (execOp a.eval o).run P w = .ok (.value v) w := by
  unfold execOp
  simp only [ho, hx]
  have h1 : (isAgg ty).run P w = .ok false w := by
    unfold isAgg
    rw [Sem.run_bind, run_underlying hu w]
    rfl
  simp [Instr.loadAt, Instr.sureAddr, loadVar, h1, go_sem, hc]
theorem run_xorL {x y : Operand} {t u : TypeId} {p q : UInt64} (ho : o.op = .binOp .xor t x y u) (hx : a.eval x = .int .u64 (p.toNat : Int)) (hy : a.eval y = .int .u64 (q.toNat : Int)) : (execOp a.eval o).run P w = .ok (.value (.int .u64 ((p ^^^ q).toNat : Int))) w := by
  have h := u64_xor p q
  unfold execOp
  simp only [ho, hx, hy]
  simp [go_sem, h]
end
end Go.Proofs.YtjondbamnbgiaaaDoor
