/-
 WORDS for SampleNtt.
-/
import Derived.Test.YtfcgdjgfdbcddaaDoorRs1
import Derived.Test.YtfcgdjgfdbcddaaDoorZR5
import Derived.Test.YtfcgdjgfdbcddaaDoorKXo
import Derived.Deep.LoopGhost
namespace Go.Proofs.YtfcgdjgfdbcddaaDoor
open Go.RowKit
set_option maxRecDepth 100000
section
variable {ops : Array Oper} {rest : List Oper} {o1 : Oper} {a : Act} {w : World} {Q : Exit → Act → World → Prop}
/-- a new polynomial of zeros -/
theorem wl_allocS (d : Nat) (hg1 : o1.guard = none) (hd : o1.dst = some d) (h1 : o1.op = .alloc 25)
 (h : ∀ g w2, Shh (g = w.heap.size) → Row w2 g 25 (pc fun _ => 0) → Below w.heap.size w w2 → wpList Tryd.prog ops Q rest (a.put (some d) (.pointer (some ⟨g, 0, none⟩))) w2) : wpList Tryd.prog ops Q (o1 :: rest) a w := by
 refine wl_allocP hg1 h1 ?_
 rw [hd]
 exact h _ _ ⟨rfl⟩ (Row.new_ rfl rfl) (bel1 w _)
end
section
variable {a : Act} {x y : Operand} {op : Oper} {w : World}
theorem load_u8x {q : Addr} {n : Nat} (ho : op.op = .load 5 x) (hc : w.cell? q = some (.int .u8 (n : Int))) (hx : a.eval x = .pointer (some q)) : (execOp a.eval op).run Tryd.prog w = .ok (.value (.int .u8 (n : Int))) w := by
 unfold execOp
 simp only [ho, hx]
 go_simp
theorem conv_816 {n : Nat} (hn : n < 256) (ho : op.op = .convert 5 23 x) (hx : a.eval x = .int .u8 (n : Int)) : (execOp a.eval op).run Tryd.prog w = .ok (.value (.int .u16 (n : Int))) w := by
 have hw : IntKind.u16.wrap (n : Int) = (n : Int) := by rw [IntKind.wrap_u16]; omega
 have hm : (n : Int) % 65536 = (n : Int) := by omega
 unfold execOp
 simp only [ho, hx]
 go_simp
theorem conv_8i {n : Nat} (hn : n < 256) (ho : op.op = .convert 5 3 x) (hx : a.eval x = .int .u8 (n : Int)) : (execOp a.eval op).run Tryd.prog w = .ok (.value (.int .i64 (n : Int))) w := by
 have hw : IntKind.i64.wrap (n : Int) = (n : Int) := by rw [IntKind.wrap_i64]; omega
 unfold execOp
 simp only [ho, hx]
 go_simp
theorem rem_16u {n r : Nat} (h : r = n % 16) (hn : n < 65536) (ho : op.op = .binOp .rem 23 x (.const (.int .u16 16)) 23) (hx : a.eval x = .int .u16 (n : Int)) : (execOp a.eval op).run Tryd.prog w = .ok (.value (.int .u16 (r : Int))) w := by
 have hc : a.eval (.const (.int .u16 16)) = .int .u16 16 := rfl
 have e : (n : Int).tmod 16 = (r : Int) := by rw [Int.tmod_eq_emod_of_nonneg (by omega)]; omega
 have e2 : (n : Int) % 16 = (r : Int) := by omega
 have hw : IntKind.u16.wrap (r : Int) = (r : Int) := by rw [IntKind.wrap_u16]; omega
 have hm : (r : Int) % 65536 = (r : Int) := by omega
 clear h
 unfold execOp
 simp only [ho, hx, hc]
 go_simp
theorem quo_16u {n r : Nat} (h : r = n / 16) (hn : n < 65536) (ho : op.op = .binOp .quo 23 x (.const (.int .u16 16)) 23) (hx : a.eval x = .int .u16 (n : Int)) : (execOp a.eval op).run Tryd.prog w = .ok (.value (.int .u16 (r : Int))) w := by
 have hc : a.eval (.const (.int .u16 16)) = .int .u16 16 := rfl
 have e : (n : Int).tdiv 16 = (r : Int) := by rw [Int.tdiv_eq_ediv_of_nonneg (by omega)]; omega
 have e2 : (n : Int) / 16 = (r : Int) := by omega
 have hw : IntKind.u16.wrap (r : Int) = (r : Int) := by rw [IntKind.wrap_u16]; omega
 have hm : (r : Int) % 65536 = (r : Int) := by omega
 clear h
 unfold execOp
 simp only [ho, hx, hc]
 go_simp
theorem mul_uu {i j k : Nat} (h : k = i * j) (hk : k < 65536) (ho : op.op = .binOp .mul 23 x y 23) (hx : a.eval x = .int .u16 (i : Int)) (hy : a.eval y = .int .u16 (j : Int)) : (execOp a.eval op).run Tryd.prog w = .ok (.value (.int .u16 (k : Int))) w := by
 have he : (i : Int) * (j : Int) = (k : Int) := by rw [h, Int.natCast_mul]
 have hw : IntKind.u16.wrap (k : Int) = (k : Int) := by rw [IntKind.wrap_u16]; omega
 have hm : (k : Int) % 65536 = (k : Int) := by omega
 clear h
 unfold execOp
 simp only [ho, hx, hy]
 go_simp
theorem rem_16i {n r : Nat} (h : r = n % 16) (hn : n < 65536) (ho : op.op = .binOp .rem 3 x (.const (.int .i64 16)) 3) (hx : a.eval x = .int .i64 (n : Int)) : (execOp a.eval op).run Tryd.prog w = .ok (.value (.int .i64 (r : Int))) w := by
 have hc : a.eval (.const (.int .i64 16)) = .int .i64 16 := rfl
 have e : (n : Int).tmod 16 = (r : Int) := by rw [Int.tmod_eq_emod_of_nonneg (by omega)]; omega
 have e2 : (n : Int) % 16 = (r : Int) := by omega
 have hw : IntKind.i64.wrap (r : Int) = (r : Int) := by rw [IntKind.wrap_i64]; omega
 clear h
 unfold execOp
 simp only [ho, hx, hc]
 go_simp
theorem quo_16i {n r : Nat} (h : r = n / 16) (hn : n < 65536) (ho : op.op = .binOp .quo 3 x (.const (.int .i64 16)) 3) (hx : a.eval x = .int .i64 (n : Int)) : (execOp a.eval op).run Tryd.prog w = .ok (.value (.int .i64 (r : Int))) w := by
 have hc : a.eval (.const (.int .i64 16)) = .int .i64 16 := rfl
 have e : (n : Int).tdiv 16 = (r : Int) := by rw [Int.tdiv_eq_ediv_of_nonneg (by omega)]; omega
 have e2 : (n : Int) / 16 = (r : Int) := by omega
 have hw : IntKind.i64.wrap (r : Int) = (r : Int) := by rw [IntKind.wrap_i64]; omega
 clear h
 unfold execOp
 simp only [ho, hx, hc]
 go_simp
theorem idx_two {k : Nat} {l : List Value} {v : Value} (hk : k < 2) (h : l[k]? = some v) (ho : op.op = .index 40 x y) (hx : a.eval x = .agg l.toArray) (hy : a.eval y = .int .i64 (k : Int)) : (execOp a.eval op).run Tryd.prog w = .ok (.value v) w := by
 have h1 := run_idx 40 2 Tryd.underlying40 w l k v hk h
 unfold execOp
 simp only [ho, hx, hy]
 go_simp
end
theorem built_two (x y : Int) : Tryd.prog.built 40 [(0, .int .u16 x), (1, .int .u16 y)] = some [.int .u16 x, .int .u16 y].toArray := by kernel_rfl
/-- the answer is a polynomial and a code; block g alone has turned -/
def SampIs (w : World) (g : Nat) (xs : Nat → Nat) (e : Ending) (w' : World) : Prop := e = .returned (.tuple #[polyV (smpF xs), .int .i64 (smpE xs)]) ∧ But w.heap.size g w w'
end Go.Proofs.YtfcgdjgfdbcddaaDoor
