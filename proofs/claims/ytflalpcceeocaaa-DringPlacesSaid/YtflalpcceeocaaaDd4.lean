/-
 WORDS for guarded operations; three ready operations; '!=' of arrays; equal arrays of 32 bits.
-/
import Derived.Test.YtflalpcceeocaaaDd2
import Derived.Test.YtflalpcceeocaaaMC
import Derived.Laws.Cover1
import Derived.Great.Walk
namespace Go.Proofs.Ytflalpcceeocaaa
open Go.RowKit
set_option maxRecDepth 100000
section
variable {P : Program} {md : Region.Mode} {ops : Array Oper} {Q : Exit → Act → World → Prop} {S : World → Prop} {fuel : Nat} {listed : Array Bool} {a : Act} {w : World}
theorem held_three (i j k : Nat) (hr : Region.ready md ops listed = [i, j, k]) (h1 : HStep P md ops Q S fuel listed a w i) (h2 : HStep P md ops Q S fuel listed a w j) (h3 : HStep P md ops Q S fuel listed a w k) : wpAnyH P md ops Q S (fuel + 1) listed a w :=
 wpAnyH_all hr (by simp) fun m hm => by
  simp only [List.mem_cons, List.not_mem_nil, or_false] at hm
  rcases hm with rfl | rfl | rfl
  ·exact h1
  ·exact h2
  ·exact h3
end
theorem run_neq_agg {P : Program} {w : World} {x y : Operand} {ρ : Operand → Value} {p q : Array Value} {T U ty : TypeId} {d : Option Tmp} {r : Bool} (hg : P.eqGuardType P.depth T = false) (heq : (Op.equalIn 10000 T (.agg p) (.agg q)).run P w = .ok r w) (hx : ρ x = .agg p) (hy : ρ y = .agg q) :
 (execOp ρ ⟨d, .binOp .neq T x y U, ty, "", #[], none⟩).run P w = .ok (.value (.bool (!r))) w := by
 have hbin : (binOp .neq T (.agg p) (.agg q)).run P w = .ok (.bool (!r)) w := by
  have e : binOp .neq T (.agg p) (.agg q) = (do pure (.bool (!(← Op.equal T (.agg p) (.agg q))))) := by rfl
  have e2 : Op.equal T (.agg p) (.agg q) = Op.equalIn 10000 T (.agg p) (.agg q) := by rfl
  rw [e, e2, Sem.run_bind, heq]
  rfl
 have hgd : (eqGuard .neq T x y (.agg p) (.agg q)).run P w = .ok () w := by
  unfold eqGuard
  simp [go_sem, hg]
 unfold execOp
 simp only [hx, hy, Sem.run_bind, hgd, hbin, Result.andThen_ok]
 rfl
theorem wl_wanted {P : Program} {ops : Array Oper} {rest : List Oper} {o : Oper} {a : Act} {w : World} {Q : Exit → Act → World → Prop} (hw : Region.wanted o (yielded ops a.tmps) = true)
  (h : ∀ K : Act → World → Prop, (∀ a w, wpList P ops Q rest a w → K a w) → o.wp P a w K Q) : wpList P ops Q (o :: rest) a w :=
 wpList_step fun K hK => by rw [if_pos hw]; exact h K hK
/-- a load of a row, whatever its guard -/
theorem wl_loadW {P : Program} {ops : Array Oper} {rest : List Oper} {o : Oper} {a : Act} {w : World} {Q : Exit → Act → World → Prop} (ty : TypeId) (x : Operand) (ho : o.op = .load ty x)
  (g : Nat) (hx : a.eval x = .pointer (some ⟨g, 0, none⟩)) (t : TypeId) (cs : List Value) (d : TypeDesc) (hw : Region.wanted o (yielded ops a.tmps) = true) (hr : Row w g t cs)
  (hu : P.underlying ty = some d) (hd : (match d with | .struct _ | .array _ _ => true | _ => false) = true) (hi : (P.info? ty).map (·.size) = some cs.length)
  (h : wpList P ops Q rest (a.put o.dst (.agg cs.toArray)) w) : wpList P ops Q (o :: rest) a w :=
 wl_wanted hw fun _ hK => wp_load_row ty x ho g hx t cs.toArray (0, 0) d hr hu hd (by simpa using hi) (hK _ _ h)
/-- a comparison of two rows, whatever its guard -/
theorem wl_eqlW {P : Program} {ops : Array Oper} {rest : List Oper} {o : Oper} {a : Act} {w : World} {Q : Exit → Act → World → Prop} (T U : TypeId) (x y : Operand) (ho : o.op = .binOp .eql T x y U)
  (p q : Array Value) (hx : a.eval x = .agg p) (hy : a.eval y = .agg q) (hw : Region.wanted o (yielded ops a.tmps) = true) (hg : P.eqGuardType P.depth T = false) (r : Bool) (heq : (Op.equalIn 10000 T (.agg p) (.agg q)).run P w = .ok r w)
  (h : wpList P ops Q rest (a.put o.dst (.bool r)) w) : wpList P ops Q (o :: rest) a w := by
 refine wl_wanted hw fun K hK => ?_
 obtain ⟨dst, op, ty, pos, after, guard⟩ := o
 obtain rfl := ho
 have hrun := run_eql_agg (P := P) (w := w) (x := x) (y := y) (ρ := a.eval) (p := p) (q := q) (T := T) (U := U) (ty := ty) (d := dst) (r := r) hg heq hx hy
 have hrun' : (execOp a.eval ⟨dst, .binOp .eql T x y U, ty, pos, after, guard⟩).run P w = .ok (.value (.bool r)) w := by
  rw [← hrun]
  unfold execOp
  rfl
 unfold Oper.wp
 rw [hrun', Oper.upon_value]
 exact hK _ _ h
theorem wl_neqW {P : Program} {ops : Array Oper} {rest : List Oper} {o : Oper} {a : Act} {w : World} {Q : Exit → Act → World → Prop} (T U : TypeId) (x y : Operand) (ho : o.op = .binOp .neq T x y U)
  (p q : Array Value) (hx : a.eval x = .agg p) (hy : a.eval y = .agg q) (hw : Region.wanted o (yielded ops a.tmps) = true) (hg : P.eqGuardType P.depth T = false) (r : Bool) (heq : (Op.equalIn 10000 T (.agg p) (.agg q)).run P w = .ok r w)
  (h : wpList P ops Q rest (a.put o.dst (.bool (!r))) w) : wpList P ops Q (o :: rest) a w := by
 refine wl_wanted hw fun K hK => ?_
 obtain ⟨dst, op, ty, pos, after, guard⟩ := o
 obtain rfl := ho
 have hrun := run_neq_agg (P := P) (w := w) (x := x) (y := y) (ρ := a.eval) (p := p) (q := q) (T := T) (U := U) (ty := ty) (d := dst) (r := r) hg heq hx hy
 have hrun' : (execOp a.eval ⟨dst, .binOp .neq T x y U, ty, pos, after, guard⟩).run P w = .ok (.value (.bool (!r))) w := by
  rw [← hrun]
  unfold execOp
  rfl
 unfold Oper.wp
 rw [hrun', Oper.upon_value]
 exact hK _ _ h
section
variable {ops : Array Oper} {rest : List Oper} {o : Oper} {a : Act} {w : World} {Q : Exit → Act → World → Prop}
theorem wl_atW (d : Nat) (hd : o.dst = some d) (v : Value) (hw : Region.wanted o (yielded ops a.tmps) = true) (hrun : (execOp a.eval o).run Try.prog w = .ok (.value v) w) {a2 : Act} (h : wpList Try.prog ops Q rest a2 w) (ha : a.put (some d) v = a2 := by ((try simp only [Act.put, arr9, hd9, tl9]); rfl)) : wpList Try.prog ops Q (o :: rest) a w := by
 refine wl_wanted hw fun K hK => ?_
 unfold Oper.wp
 rw [hrun, Oper.upon_value, hd, ha]
 exact hK _ _ h
end
theorem eq_dpoly (p : Nat → Int) (hp : ∀ i, i < 256 → i32 (p i)) (w : World) : (Op.equalIn 10000 34 (.agg (dc p).toArray) (.agg (dc p).toArray)).run Try.prog w = .ok true w := by
 have e : dc p = ((List.range 256).map fun i => p i).map (Value.int .i32) := by simp [dc]
 rw [e, eq_arr (k := .i32) (n := 256) (e := 21) (by kernel_rfl) Try.underlying34 Try.underlying21 (by kernel_rfl) (by kernel_rfl) _ _ (by simp) (by simp) ?_ ?_]
 ·simp
 all_goals
  intro x hx
  obtain ⟨i, hi, rfl⟩ := List.mem_map.1 hx
  have h := hp i (List.mem_range.1 hi)
  unfold i32 at h
  simp [Lit.wf, IntKind.min, IntKind.max, IntKind.signed, IntKind.bits]
  omega
section
variable {P : Program} {ops : Array Oper} {rest : List Oper} {o : Oper} {a : Act} {w : World} {Q : Exit → Act → World → Prop}
theorem wl_max3 (d : Nat) (hd : o.dst = some d) (hgd : o.guard = none) (x y z : Operand) (T T' T'' : TypeId) (ho : o.op = .call { callee := .builtin .max, args := #[x, y, z], argTypes := #[T, T', T''] })
  (i j k m : Int) (hx : a.eval x = .int .i32 i) (hy : a.eval y = .int .i32 j) (hz : a.eval z = .int .i32 k) (hm : (if k > (if j > i then j else i) then k else (if j > i then j else i)) = m) (h : wpList P ops Q rest (a.put (some d) (.int .i32 m)) w) : wpList P ops Q (o :: rest) a w := by
 rw [← hd] at h
 refine Go.Great.wpList_runTo hgd o.dst rfl (.int .i32 m) w ?_ h
 have hrun := run_max_int3 (P := P) (w := w) #[T, T', T''] o.type .i32 .i32 .i32 i j k
 rw [hm] at hrun
 simp [execOp, ho, resolve, invoke, builtin, hx, hy, hz, hrun, Result.andThen]
end
end Go.Proofs.Ytflalpcceeocaaa
