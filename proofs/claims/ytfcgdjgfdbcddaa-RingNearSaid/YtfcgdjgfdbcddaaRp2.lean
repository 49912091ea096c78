/-
 OPERATIONS on polynomials in memory.
-/
import Derived.Test.YtfcgdjgfdbcddaaRp1
import Derived.Test.YtfcgdjgfdbcddaaHand
import Derived.Test.YtfcgdjgfdbcddaaKLa
import Derived.Test.YtfcgdjgfdbcddaaCov0
namespace Go.Proofs.Ytfcgdjgfdbcddaa
open Go.RowKit
set_option maxRecDepth 100000
def polyV (p : Nat → Nat) : Value := .agg (pc p).toArray
/-- the answer is a polynomial, and what was in memory stays -/
def PolyIs (w : World) (p : Nat → Nat) (e : Ending) (w' : World) : Prop := e = .returned (polyV p) ∧ Below w.heap.size w w'
theorem bel1 (w : World) (o : Obj) : Below w.heap.size w (w.alloc o) := Below.alloc (Below.refl _ _) (Nat.le_refl _) _
theorem info_poly : (Try.prog.info? 24).map (·.size) = some 256 := by kernel_rfl
theorem size_poly (p : Nat → Nat) : some 256 = some (pc p).length := by rw [pc_length]
theorem zero_poly (W : World) : (zeroValue 24).run Try.prog W = .ok (.agg (pc fun _ => 0).toArray) W := by kernel_rfl
section
variable {ops : Array Oper} {rest : List Oper} {o : Oper} {a : Act} {w : World} {Q : Exit → Act → World → Prop} {x y : Operand} {op : Oper}
theorem wl_allocP (hgd : o.guard = none) (ho : o.op = .alloc 24) (h : wpList Try.prog ops Q rest (a.put o.dst (.pointer (some ⟨w.heap.size, 0, none⟩))) (w.alloc (.cells (pc fun _ => 0).toArray 24))) : wpList Try.prog ops Q (o :: rest) a w := by
 refine wl_valueW (.pointer (some ⟨w.heap.size, 0, none⟩)) (w.alloc (.cells (pc fun _ => 0).toArray 24)) hgd ?_ h
 have hz := zero_poly w
 unfold execOp
 simp only [ho]
 generalize pc (fun _ => 0) = z at *
 go_simp
theorem at_poly {g k : Nat} (hk : k < 256) (ho : op.op = .indexAddr 24 x y) (hx : a.eval x = .pointer (some ⟨g, 0, none⟩)) (hy : a.eval y = .int .i64 (k : Int)) : (execOp a.eval op).run Try.prog w = .ok (.value (.pointer (some ⟨g, k, none⟩))) w := by
 have h1 : (k : Int) < 256 := by omega
 have h2 : (0 : Int) ≤ (k : Int) := by omega
 unfold execOp
 simp only [ho, hx, hy]
 go_simp
theorem load_u16 {q : Addr} {n : Nat} (ho : op.op = .load 22 x) (hc : w.cell? q = some (.int .u16 (n : Int))) (hx : a.eval x = .pointer (some q)) : (execOp a.eval op).run Try.prog w = .ok (.value (.int .u16 (n : Int))) w := by
 unfold execOp
 simp only [ho, hx]
 go_simp
theorem rem_u16 {n r : Nat} (h : r = n % 3329) (hn : n < 65536) (ho : op.op = .binOp .rem 22 x (.const (.int .u16 3329)) 22) (hx : a.eval x = .int .u16 (n : Int)) : (execOp a.eval op).run Try.prog w = .ok (.value (.int .u16 (r : Int))) w := by
 have hc : a.eval (.const (.int .u16 3329)) = .int .u16 3329 := rfl
 have e : (n : Int).tmod 3329 = (r : Int) := by rw [Int.tmod_eq_emod_of_nonneg (by omega)]; omega
 have e2 : (n : Int) % 3329 = (r : Int) := by omega
 have hw : IntKind.u16.wrap (r : Int) = (r : Int) := by rw [IntKind.wrap_u16]; omega
 have hm : (r : Int) % 65536 = (r : Int) := by omega
 clear h
 unfold execOp
 simp only [ho, hx, hc]
 go_simp
theorem conv_ui16 {n : Nat} (hn : n < 65536) (ho : op.op = .convert 22 3 x) (hx : a.eval x = .int .u16 (n : Int)) : (execOp a.eval op).run Try.prog w = .ok (.value (.int .i64 (n : Int))) w := by
 have hw : IntKind.i64.wrap (n : Int) = (n : Int) := by rw [IntKind.wrap_i64]; omega
 unfold execOp
 simp only [ho, hx]
 go_simp
theorem conv_iu16 {n : Nat} (hn : n < 65536) (ho : op.op = .convert 3 22 x) (hx : a.eval x = .int .i64 (n : Int)) : (execOp a.eval op).run Try.prog w = .ok (.value (.int .u16 (n : Int))) w := by
 have hw : IntKind.u16.wrap (n : Int) = (n : Int) := by rw [IntKind.wrap_u16]; omega
 have hm : (n : Int) % 65536 = (n : Int) := by omega
 unfold execOp
 simp only [ho, hx]
 go_simp
theorem add_ii {i j k : Nat} (h : k = i + j ∧ k ≤ 1000000000000) (ho : op.op = .binOp .add 3 x y 3) (hx : a.eval x = .int .i64 (i : Int)) (hy : a.eval y = .int .i64 (j : Int)) : (execOp a.eval op).run Try.prog w = .ok (.value (.int .i64 (k : Int))) w := by
 have hw : IntKind.i64.wrap ((i : Int) + (j : Int)) = (k : Int) := by rw [IntKind.wrap_i64]; omega
 clear h
 unfold execOp
 simp only [ho, hx, hy]
 go_simp
theorem sub_ii {i j k : Nat} (h : i = k + j ∧ i ≤ 1000000000000) (ho : op.op = .binOp .sub 3 x y 3) (hx : a.eval x = .int .i64 (i : Int)) (hy : a.eval y = .int .i64 (j : Int)) : (execOp a.eval op).run Try.prog w = .ok (.value (.int .i64 (k : Int))) w := by
 have hw : IntKind.i64.wrap ((i : Int) - (j : Int)) = (k : Int) := by rw [IntKind.wrap_i64]; omega
 clear h
 unfold execOp
 simp only [ho, hx, hy]
 go_simp
theorem mul_iin {i j k : Nat} (h : k = i * j) (hk : k ≤ 1000000000000) (ho : op.op = .binOp .mul 3 x y 3) (hx : a.eval x = .int .i64 (i : Int)) (hy : a.eval y = .int .i64 (j : Int)) : (execOp a.eval op).run Try.prog w = .ok (.value (.int .i64 (k : Int))) w := by
 have he : (i : Int) * (j : Int) = (k : Int) := by rw [h, Int.natCast_mul]
 have hw : IntKind.i64.wrap (k : Int) = (k : Int) := by rw [IntKind.wrap_i64]; omega
 clear h
 unfold execOp
 simp only [ho, hx, hy]
 go_simp
theorem rem_iq {n r : Nat} (h : r = n % 3329) (hn : n ≤ 1000000000000) (ho : op.op = .binOp .rem 3 x (.const (.int .i64 3329)) 3) (hx : a.eval x = .int .i64 (n : Int)) : (execOp a.eval op).run Try.prog w = .ok (.value (.int .i64 (r : Int))) w := by
 have hc : a.eval (.const (.int .i64 3329)) = .int .i64 3329 := rfl
 have e : (n : Int).tmod 3329 = (r : Int) := by rw [Int.tmod_eq_emod_of_nonneg (by omega)]; omega
 have e2 : (n : Int) % 3329 = (r : Int) := by omega
 have hw : IntKind.i64.wrap (r : Int) = (r : Int) := by rw [IntKind.wrap_i64]; omega
 clear h
 unfold execOp
 simp only [ho, hx, hc]
 go_simp
end
end Go.Proofs.Ytfcgdjgfdbcddaa
