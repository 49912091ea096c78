/-
 LOADS AND COMPARISONS under a guard that holds, in an undrawn list.
-/
import Derived.Test.YtfcgdjgfdbcddaaRp8
namespace Go.Proofs.Ytfcgdjgfdbcddaa
open Go.RowKit
set_option maxRecDepth 100000
theorem wl_wanted {P : Program} {ops : Array Oper} {rest : List Oper} {o : Oper} {a : Act} {w : World} {Q : Exit → Act → World → Prop} (hw : Region.wanted o (yielded ops a.tmps) = true)
  (h : ∀ K : Act → World → Prop, (∀ a w, wpList P ops Q rest a w → K a w) → o.wp P a w K Q) : wpList P ops Q (o :: rest) a w :=
 wpList_step fun K hK => by rw [if_pos hw]; exact h K hK
/-- a load of a row, whatever its guard -/
theorem wl_loadW {P : Program} {ops : Array Oper} {rest : List Oper} {o : Oper} {a : Act} {w : World} {Q : Exit → Act → World → Prop} (ty : TypeId) (x : Operand) (ho : o.op = .load ty x)
  (g : Nat) (hx : a.eval x = .pointer (some ⟨g, 0, none⟩)) (t : TypeId) (cs : List Value) (d : TypeDesc) (hw : Region.wanted o (yielded ops a.tmps) = true) (hr : Row w g t cs)
  (hu : P.underlying ty = some d) (hd : (match d with | .struct _ | .array _ _ => true | _ => false) = true) (hi : (P.info? ty).map (·.size) = some cs.length)
  (h : wpList P ops Q rest (a.put o.dst (.agg cs.toArray)) w) : wpList P ops Q (o :: rest) a w :=
 wl_wanted hw fun _ hK => wp_load_row ty x ho g hx t cs.toArray (0, 0) d hr hu hd (by simpa using hi) (hK _ _ h)
/-- a comparison of two rows, whatever its guard -/
theorem wl_eqlW {P : Program} {ops : Array Oper} {rest : List Oper} {o : Oper} {a : Act} {w : World} {Q : Exit → Act → World → Prop} (T U : TypeId) (x y : Operand) (ho : o.op = .binOp .eql T x y U)
  (p q : Array Value) (hx : a.eval x = .agg p) (hy : a.eval y = .agg q) (hw : Region.wanted o (yielded ops a.tmps) = true) (hg : P.eqGuardType P.depth T = false) (r : Bool) (heq : (Op.equalIn 10000 T (.agg p) (.agg q)).run P w = .ok r w)
  (h : wpList P ops Q rest (a.put o.dst (.bool r)) w) : wpList P ops Q (o :: rest) a w := by
 refine wl_wanted hw fun K hK => ?_
 obtain ⟨dst, op, ty, pos, after, guard⟩ := o
 obtain rfl := ho
 have hrun := run_eql_agg (P := P) (w := w) (x := x) (y := y) (ρ := a.eval) (p := p) (q := q) (T := T) (U := U) (ty := ty) (d := dst) (r := r) hg heq hx hy
 have hrun' : (execOp a.eval ⟨dst, .binOp .eql T x y U, ty, pos, after, guard⟩).run P w = .ok (.value (.bool r)) w := by
  rw [← hrun]
  unfold execOp
  rfl
 unfold Oper.wp
 rw [hrun', Oper.upon_value]
 exact hK _ _ h
theorem wl_neqW {P : Program} {ops : Array Oper} {rest : List Oper} {o : Oper} {a : Act} {w : World} {Q : Exit → Act → World → Prop} (T U : TypeId) (x y : Operand) (ho : o.op = .binOp .neq T x y U)
  (p q : Array Value) (hx : a.eval x = .agg p) (hy : a.eval y = .agg q) (hw : Region.wanted o (yielded ops a.tmps) = true) (hg : P.eqGuardType P.depth T = false) (r : Bool) (heq : (Op.equalIn 10000 T (.agg p) (.agg q)).run P w = .ok r w)
  (h : wpList P ops Q rest (a.put o.dst (.bool (!r))) w) : wpList P ops Q (o :: rest) a w := by
 refine wl_wanted hw fun K hK => ?_
 obtain ⟨dst, op, ty, pos, after, guard⟩ := o
 obtain rfl := ho
 have hrun := run_neq_agg (P := P) (w := w) (x := x) (y := y) (ρ := a.eval) (p := p) (q := q) (T := T) (U := U) (ty := ty) (d := dst) (r := r) hg heq hx hy
 have hrun' : (execOp a.eval ⟨dst, .binOp .neq T x y U, ty, pos, after, guard⟩).run P w = .ok (.value (.bool (!r))) w := by
  rw [← hrun]
  unfold execOp
  rfl
 unfold Oper.wp
 rw [hrun', Oper.upon_value]
 exact hK _ _ h
section
variable {ops : Array Oper} {rest : List Oper} {o : Oper} {a : Act} {w : World} {Q : Exit → Act → World → Prop}
theorem wl_atW (d : Nat) (hd : o.dst = some d) (v : Value) (hw : Region.wanted o (yielded ops a.tmps) = true) (hrun : (execOp a.eval o).run Try.prog w = .ok (.value v) w) {a2 : Act} (h : wpList Try.prog ops Q rest a2 w) (ha : a.put (some d) v = a2 := by ((try simp only [Act.put, arr9, hd9, tl9]); rfl)) : wpList Try.prog ops Q (o :: rest) a w := by
 refine wl_wanted hw fun K hK => ?_
 unfold Oper.wp
 rw [hrun, Oper.upon_value, hd, ha]
 exact hK _ _ h
end
end Go.Proofs.Ytfcgdjgfdbcddaa
