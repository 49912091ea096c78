/-
  EQUALITY OF SETS; loads and comparisons under a guard that holds.
-/
import Derived.Test.YthahnckjmlcehaaMC
import Derived.Test.YthahnckjmlcehaaHand
namespace Go.Proofs.Ythahnckjmlcehaa
open Go.RowKit
set_option maxRecDepth 100000
theorem wl_wanted {P : Program} {ops : Array Oper} {rest : List Oper} {o : Oper} {a : Act} {w : World} {Q : Exit → Act → World → Prop} (hw : Region.wanted o (yielded ops a.tmps) = true)
    (h : ∀ K : Act → World → Prop, (∀ a w, wpList P ops Q rest a w → K a w) → o.wp P a w K Q) : wpList P ops Q (o :: rest) a w :=
  wpList_step fun K hK => by rw [if_pos hw]; exact h K hK
/-- a load of a row, whatever its guard -/
theorem wl_loadW {P : Program} {ops : Array Oper} {rest : List Oper} {o : Oper} {a : Act} {w : World} {Q : Exit → Act → World → Prop} (ty : TypeId) (x : Operand) (ho : o.op = .load ty x)
    (g : Nat) (hx : a.eval x = .pointer (some ⟨g, 0, none⟩)) (t : TypeId) (cs : List Value) (d : TypeDesc) (hw : Region.wanted o (yielded ops a.tmps) = true) (hr : Row w g t cs)
    (hu : P.underlying ty = some d) (hd : (match d with | .struct _ | .array _ _ => true | _ => false) = true) (hi : (P.info? ty).map (·.size) = some cs.length)
    (h : wpList P ops Q rest (a.put o.dst (.agg cs.toArray)) w) : wpList P ops Q (o :: rest) a w :=
  wl_wanted hw fun _ hK => wp_load_row ty x ho g hx t cs.toArray (0, 0) d hr hu hd (by simpa using hi) (hK _ _ h)
/-- a comparison of two rows, whatever its guard -/
theorem wl_eqlW {P : Program} {ops : Array Oper} {rest : List Oper} {o : Oper} {a : Act} {w : World} {Q : Exit → Act → World → Prop} (T U : TypeId) (x y : Operand) (ho : o.op = .binOp .eql T x y U)
    (p q : Array Value) (hx : a.eval x = .agg p) (hy : a.eval y = .agg q) (hw : Region.wanted o (yielded ops a.tmps) = true) (hg : P.eqGuardType P.depth T = false) (r : Bool) (heq : (Op.equalIn 10000 T (.agg p) (.agg q)).run P w = .ok r w)
    (h : wpList P ops Q rest (a.put o.dst (.bool r)) w) : wpList P ops Q (o :: rest) a w := by
  refine wl_wanted hw fun K hK => ?_
  obtain ⟨dst, op, ty, pos, after, guard⟩ := o
  obtain rfl := ho
  have hrun := run_eql_agg (P := P) (w := w) (x := x) (y := y) (ρ := a.eval) (p := p) (q := q) (T := T) (U := U) (ty := ty) (d := dst) (r := r) hg heq hx hy
  have hrun' : (execOp a.eval ⟨dst, .binOp .eql T x y U, ty, pos, after, guard⟩).run P w = .ok (.value (.bool r)) w := by
    rw [← hrun]
    unfold execOp
    rfl
  unfold Oper.wp
  rw [hrun', Oper.upon_value]
  exact hK _ _ h
/-! the sets of one kind: equal where all their fields are -/
theorem wf32 {x : Int} (h0 : 0 ≤ x) (h1 : x ≤ 4294967295) : (Lit.int .u32 x).wf = true := by
  simp [Lit.wf, IntKind.min, IntKind.max, IntKind.signed, IntKind.bits]
  omega
theorem wf64 {x : Int} (h0 : -9223372036854775808 ≤ x) (h1 : x ≤ 9223372036854775807) : (Lit.int .i64 x).wf = true := by
  simp [Lit.wf, IntKind.min, IntKind.max, IntKind.signed, IntKind.bits]
  omega
theorem cells_u32' : Try.prog.cellsOf 35 = 1 := by kernel_rfl
theorem cells_bool' : Try.prog.cellsOf 4 = 1 := by kernel_rfl
theorem cells_int' : Try.prog.cellsOf 3 = 1 := by kernel_rfl
theorem key_lms (xc : Int) (xs : Bool) (xn xh : Int) (hxc : (Lit.int .u32 xc).wf = true) (hxn : (Lit.int .i64 xn).wf = true) (hxh : (Lit.int .i64 xh).wf = true) :
    Try.prog.keyLits 3 37 [.int .u32 xc, .bool xs, .int .i64 xn, .int .i64 xh] = some [.int .u32 xc, .bool xs, .int .i64 xn, .int .i64 xh] := by
  have hz : Try.prog.cellsOf 37 = 4 := by kernel_rfl
  unfold Program.keyLits
  simp only [Try.underlying37, hz]
  simp [cells_u32', cells_bool', cells_int', Program.keyLits, Try.underlying35, Try.underlying4, Try.underlying3, hxc, hxn, hxh]
theorem eq_lms (xc : Int) (xs : Bool) (xn xh : Int) (yc : Int) (ys : Bool) (yn yh : Int) (hxc : (Lit.int .u32 xc).wf = true) (hxn : (Lit.int .i64 xn).wf = true) (hxh : (Lit.int .i64 xh).wf = true) (hyc : (Lit.int .u32 yc).wf = true) (hyn : (Lit.int .i64 yn).wf = true) (hyh : (Lit.int .i64 yh).wf = true) (w : World) :
    (Op.equalIn 10000 37 (.agg #[.int .u32 xc, .bool xs, .int .i64 xn, .int .i64 xh]) (.agg #[.int .u32 yc, .bool ys, .int .i64 yn, .int .i64 yh])).run Try.prog w = .ok (decide (xc = yc ∧ xs = ys ∧ xn = yn ∧ xh = yh)) w := by
  obtain ⟨r, hr, hi⟩ := run_equalIn_deep 9998 2 37 (by kernel_rfl) w 3 3 (.agg #[.int .u32 xc, .bool xs, .int .i64 xn, .int .i64 xh]) (.agg #[.int .u32 yc, .bool ys, .int .i64 yn, .int .i64 yh]) _ _ (by kernel_rfl) (by kernel_rfl) (key_lms xc xs xn xh hxc hxn hxh) (key_lms yc ys yn yh hyc hyn hyh)
  have hb : r = decide (xc = yc ∧ xs = ys ∧ xn = yn ∧ xh = yh) := by
    by_cases h : xc = yc ∧ xs = ys ∧ xn = yn ∧ xh = yh
    · rw [decide_eq_true h]
      refine hi.2 ?_
      obtain ⟨rfl, rfl, rfl, rfl⟩ := h
      rfl
    · rw [decide_eq_false h]
      cases r with
      | false => rfl
      | true =>
        refine absurd ?_ h
        have h2 := hi.1 rfl
        simpa using h2
  rw [← hb]
  exact hr
theorem key_ots (xc : Int) (xs : Bool) (xn xwd xp xl : Int) (hxc : (Lit.int .u32 xc).wf = true) (hxn : (Lit.int .i64 xn).wf = true) (hxwd : (Lit.int .i64 xwd).wf = true) (hxp : (Lit.int .i64 xp).wf = true) (hxl : (Lit.int .i64 xl).wf = true) :
    Try.prog.keyLits 3 39 [.int .u32 xc, .bool xs, .int .i64 xn, .int .i64 xwd, .int .i64 xp, .int .i64 xl] = some [.int .u32 xc, .bool xs, .int .i64 xn, .int .i64 xwd, .int .i64 xp, .int .i64 xl] := by
  have hz : Try.prog.cellsOf 39 = 6 := by kernel_rfl
  unfold Program.keyLits
  simp only [Try.underlying39, hz]
  simp [cells_u32', cells_bool', cells_int', Program.keyLits, Try.underlying35, Try.underlying4, Try.underlying3, hxc, hxn, hxwd, hxp, hxl]
theorem eq_ots (xc : Int) (xs : Bool) (xn xwd xp xl : Int) (yc : Int) (ys : Bool) (yn ywd yp yl : Int) (hxc : (Lit.int .u32 xc).wf = true) (hxn : (Lit.int .i64 xn).wf = true) (hxwd : (Lit.int .i64 xwd).wf = true) (hxp : (Lit.int .i64 xp).wf = true) (hxl : (Lit.int .i64 xl).wf = true) (hyc : (Lit.int .u32 yc).wf = true) (hyn : (Lit.int .i64 yn).wf = true) (hywd : (Lit.int .i64 ywd).wf = true) (hyp : (Lit.int .i64 yp).wf = true) (hyl : (Lit.int .i64 yl).wf = true) (w : World) :
    (Op.equalIn 10000 39 (.agg #[.int .u32 xc, .bool xs, .int .i64 xn, .int .i64 xwd, .int .i64 xp, .int .i64 xl]) (.agg #[.int .u32 yc, .bool ys, .int .i64 yn, .int .i64 ywd, .int .i64 yp, .int .i64 yl])).run Try.prog w = .ok (decide (xc = yc ∧ xs = ys ∧ xn = yn ∧ xwd = ywd ∧ xp = yp ∧ xl = yl)) w := by
  obtain ⟨r, hr, hi⟩ := run_equalIn_deep 9998 2 39 (by kernel_rfl) w 3 3 (.agg #[.int .u32 xc, .bool xs, .int .i64 xn, .int .i64 xwd, .int .i64 xp, .int .i64 xl]) (.agg #[.int .u32 yc, .bool ys, .int .i64 yn, .int .i64 ywd, .int .i64 yp, .int .i64 yl]) _ _ (by kernel_rfl) (by kernel_rfl) (key_ots xc xs xn xwd xp xl hxc hxn hxwd hxp hxl) (key_ots yc ys yn ywd yp yl hyc hyn hywd hyp hyl)
  have hb : r = decide (xc = yc ∧ xs = ys ∧ xn = yn ∧ xwd = ywd ∧ xp = yp ∧ xl = yl) := by
    by_cases h : xc = yc ∧ xs = ys ∧ xn = yn ∧ xwd = ywd ∧ xp = yp ∧ xl = yl
    · rw [decide_eq_true h]
      refine hi.2 ?_
      obtain ⟨rfl, rfl, rfl, rfl, rfl, rfl⟩ := h
      rfl
    · rw [decide_eq_false h]
      cases r with
      | false => rfl
      | true =>
        refine absurd ?_ h
        have h2 := hi.1 rfl
        simpa using h2
  rw [← hb]
  exact hr
end Go.Proofs.Ythahnckjmlcehaa
