/-
  WORDS: a slice of bytes cut in the middle; the lesser of two numbers.
-/
import Derived.Test.YtanpplniedphkaaDoorCov0
import Derived.Great.Walk
namespace Go.Proofs.YtanpplniedphkaaDoor
open Go.RowKit
set_option maxRecDepth 100000

/-- x[i:j] of a slice of bytes, within its length -/
theorem wpList_slice_mid {ops : Array Oper} {rest : List Oper} {o : Oper} {a : Act} {w : World} {Q : Exit → Act → World → Prop} (hgd : o.guard = none) (x lo hi : Operand) (ho : o.op = .slice 22 x (some lo) (some hi) none)
    (B : Nat) (v : Value) (hx : a.eval x = v) (bs : List UInt8) (hs : Sl w B v bs) (i j : Nat) (hlo : a.eval lo = .int .i64 (i : Int)) (hhi : a.eval hi = .int .i64 (j : Int)) (hij : i ≤ j) (hj : j ≤ bs.length)
    (h : ∀ v', Sl w B v' ((bs.take j).drop i) → wpList Tryd.prog ops Q rest (a.put o.dst v') w) : wpList Tryd.prog ops Q (o :: rest) a w := by
  obtain ⟨A, c, rfl, h1, h2⟩ := hs.form
  have hcut := hs.cut i j hij hj (by omega)
  refine wpList_plain hgd fun K hK => ?_
  have hrun : (Instr.sliceAt 22 (.slice A bs.length c) (some (.int .i64 (i : Int))) (some (.int .i64 (j : Int))) none).run Tryd.prog w = .ok (sliced A i j c 1) w := by
    rw [run_sliceAt_slice _ _ _ _ _ _ slice30, run_slice_lh w 22 A bs.length c slice30 .i64 .i64 (i : Int) (j : Int) (by omega) (by omega) (by omega), elem30, run_sizeOf_u8, Result.andThen_ok, Int.toNat_natCast, Int.toNat_natCast]
  unfold Oper.wp execOp
  simp only [ho, hx, hlo, hhi, Option.map_some, Option.map_none, Sem.run_bind, hrun, Result.andThen_ok]
  exact hK _ _ (h _ hcut)

theorem wpList_min {P : Program} {ops : Array Oper} {rest : List Oper} {o : Oper} {a : Act} {w : World} {Q : Exit → Act → World → Prop} (hgd : o.guard = none) (x y : Operand) (T T' : TypeId) (ho : o.op = .call { callee := .builtin .min, args := #[x, y], argTypes := #[T, T'] })
    (i j m : Int) (hx : a.eval x = .int .i64 i) (hy : a.eval y = .int .i64 j) (hm : (if j < i then j else i) = m) (h : wpList P ops Q rest (a.put o.dst (.int .i64 m)) w) : wpList P ops Q (o :: rest) a w := by
  refine Go.Great.wpList_runTo hgd o.dst rfl (.int .i64 m) w ?_ h
  have hrun := run_min_int2 (P := P) (w := w) #[T, T'] o.type .i64 .i64 i j
  rw [hm] at hrun
  simp [execOp, ho, resolve, invoke, builtin, hx, hy, hrun, Result.andThen]

theorem q_i64 {a b : Int} (h : a = b) : Value.int .i64 a = .int .i64 b := h ▸ rfl
end Go.Proofs.YtanpplniedphkaaDoor
