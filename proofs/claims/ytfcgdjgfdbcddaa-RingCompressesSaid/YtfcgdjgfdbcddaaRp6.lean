/-
 OPERATIONS of the program's own functions: numbers of 16 and 32 bits, elements of arrays by value.
-/
import Derived.Test.YtfcgdjgfdbcddaaRp3
namespace Go.Proofs.Ytfcgdjgfdbcddaa
open Go.RowKit
set_option maxRecDepth 100000
theorem run_idx (T : TypeId) (m : Nat) (hT : Try.prog.underlying T = some (.array m 22)) (W : World) (l : List Value) (k : Nat) (v : Value) (hk : k < m) (h : l[k]? = some v) : (Instr.index T (.agg l.toArray) (.int .i64 (k : Int))).run Try.prog W = .ok v W := by
 have h2 : (0 : Int) ≤ (k : Int) ∧ (k : Int) < (m : Int) := by omega
 have h3 : (k : Int).toNat = k := by omega
 have h4 : l.toArray[k]? = some v := by simpa using h
 have h6 := Try.underlying22
 have hs : (sizeOf 22).run Try.prog W = .ok 1 W := by kernel_rfl
 simp [Instr.index, asIntOf, h2, part, isAgg, run_underlying hT, run_underlying h6, hs, h, -Int.natCast_nonneg]
 exact fun q => absurd hk (by omega)
/-- the answer is a number of 16 bits, and the world is as it was -/
def U16Is (w : World) (n : Nat) (e : Ending) (w' : World) : Prop := e = .returned (.int .u16 (n : Int)) ∧ w = w'
section
variable {a : Act} {x y : Operand} {op : Oper} {w : World}
theorem idx_poly {k : Nat} {l : List Value} {v : Value} (hk : k < 256) (h : l[k]? = some v) (ho : op.op = .index 24 x y) (hx : a.eval x = .agg l.toArray) (hy : a.eval y = .int .i64 (k : Int)) : (execOp a.eval op).run Try.prog w = .ok (.value v) w := by
 have h1 := run_idx 24 256 Try.underlying24 w l k v hk h
 unfold execOp
 simp only [ho, hx, hy]
 go_simp
theorem idx_roots {k : Nat} {l : List Value} {v : Value} (hk : k < 128) (h : l[k]? = some v) (ho : op.op = .index 48 x y) (hx : a.eval x = .agg l.toArray) (hy : a.eval y = .int .i64 (k : Int)) : (execOp a.eval op).run Try.prog w = .ok (.value v) w := by
 have h1 := run_idx 48 128 Try.underlying48 w l k v hk h
 unfold execOp
 simp only [ho, hx, hy]
 go_simp
theorem add_uu {i j k : Nat} (h : k = i + j ∧ k < 65536) (ho : op.op = .binOp .add 22 x y 22) (hx : a.eval x = .int .u16 (i : Int)) (hy : a.eval y = .int .u16 (j : Int)) : (execOp a.eval op).run Try.prog w = .ok (.value (.int .u16 (k : Int))) w := by
 have hw : IntKind.u16.wrap ((i : Int) + (j : Int)) = (k : Int) := by rw [IntKind.wrap_u16]; omega
 have hm : ((i : Int) + (j : Int)) % 65536 = (k : Int) := by omega
 clear h
 unfold execOp
 simp only [ho, hx, hy]
 go_simp
theorem sub_uu {i j k : Nat} (h : i = k + j ∧ i < 65536) (ho : op.op = .binOp .sub 22 x y 22) (hx : a.eval x = .int .u16 (i : Int)) (hy : a.eval y = .int .u16 (j : Int)) : (execOp a.eval op).run Try.prog w = .ok (.value (.int .u16 (k : Int))) w := by
 have hw : IntKind.u16.wrap ((i : Int) - (j : Int)) = (k : Int) := by rw [IntKind.wrap_u16]; omega
 have hm : ((i : Int) - (j : Int)) % 65536 = (k : Int) := by omega
 clear h
 unfold execOp
 simp only [ho, hx, hy]
 go_simp
theorem conv_u32 {n : Nat} (hn : n < 65536) (ho : op.op = .convert 22 54 x) (hx : a.eval x = .int .u16 (n : Int)) : (execOp a.eval op).run Try.prog w = .ok (.value (.int .u32 (n : Int))) w := by
 have hw : IntKind.u32.wrap (n : Int) = (n : Int) := by rw [IntKind.wrap_u32]; omega
 have hm : (n : Int) % 4294967296 = (n : Int) := by omega
 unfold execOp
 simp only [ho, hx]
 go_simp
theorem conv_32 {n k : Nat} (h : k = n % 65536) (ho : op.op = .convert 54 22 x) (hx : a.eval x = .int .u32 (n : Int)) : (execOp a.eval op).run Try.prog w = .ok (.value (.int .u16 (k : Int))) w := by
 have hw : IntKind.u16.wrap (n : Int) = (k : Int) := by rw [IntKind.wrap_u16]; omega
 have hm : (n : Int) % 65536 = (k : Int) := by omega
 clear h
 unfold execOp
 simp only [ho, hx]
 go_simp
theorem mul_32 {i j k : Nat} (h : k = i * j) (hk : k < 4294967296) (ho : op.op = .binOp .mul 54 x y 54) (hx : a.eval x = .int .u32 (i : Int)) (hy : a.eval y = .int .u32 (j : Int)) : (execOp a.eval op).run Try.prog w = .ok (.value (.int .u32 (k : Int))) w := by
 have he : (i : Int) * (j : Int) = (k : Int) := by rw [h, Int.natCast_mul]
 have hw : IntKind.u32.wrap (k : Int) = (k : Int) := by rw [IntKind.wrap_u32]; omega
 have hm : (k : Int) % 4294967296 = (k : Int) := by omega
 clear h
 unfold execOp
 simp only [ho, hx, hy]
 go_simp
theorem rem_32 {n r : Nat} (h : r = n % 3329) (hn : n < 4294967296) (ho : op.op = .binOp .rem 54 x (.const (.int .u32 3329)) 54) (hx : a.eval x = .int .u32 (n : Int)) : (execOp a.eval op).run Try.prog w = .ok (.value (.int .u32 (r : Int))) w := by
 have hc : a.eval (.const (.int .u32 3329)) = .int .u32 3329 := rfl
 have e : (n : Int).tmod 3329 = (r : Int) := by rw [Int.tmod_eq_emod_of_nonneg (by omega)]; omega
 have e2 : (n : Int) % 3329 = (r : Int) := by omega
 have hw : IntKind.u32.wrap (r : Int) = (r : Int) := by rw [IntKind.wrap_u32]; omega
 have hm : (r : Int) % 4294967296 = (r : Int) := by omega
 clear h
 unfold execOp
 simp only [ho, hx, hc]
 go_simp
theorem add_32 {i j k : Nat} (h : k = i + j ∧ k < 4294967296) (ho : op.op = .binOp .add 54 x y 54) (hx : a.eval x = .int .u32 (i : Int)) (hy : a.eval y = .int .u32 (j : Int)) : (execOp a.eval op).run Try.prog w = .ok (.value (.int .u32 (k : Int))) w := by
 have hw : IntKind.u32.wrap ((i : Int) + (j : Int)) = (k : Int) := by rw [IntKind.wrap_u32]; omega
 have hm : ((i : Int) + (j : Int)) % 4294967296 = (k : Int) := by omega
 clear h
 unfold execOp
 simp only [ho, hx, hy]
 go_simp
theorem quo_32q {n r : Nat} (h : r = n / 3329) (hn : n < 4294967296) (ho : op.op = .binOp .quo 54 x (.const (.int .u32 3329)) 54) (hx : a.eval x = .int .u32 (n : Int)) : (execOp a.eval op).run Try.prog w = .ok (.value (.int .u32 (r : Int))) w := by
 have hc : a.eval (.const (.int .u32 3329)) = .int .u32 3329 := rfl
 have e : (n : Int).tdiv 3329 = (r : Int) := by rw [Int.tdiv_eq_ediv_of_nonneg (by omega)]; omega
 have e2 : (n : Int) / 3329 = (r : Int) := by omega
 have hw : IntKind.u32.wrap (r : Int) = (r : Int) := by rw [IntKind.wrap_u32]; omega
 have hm : (r : Int) % 4294967296 = (r : Int) := by omega
 clear h
 unfold execOp
 simp only [ho, hx, hc]
 go_simp
/-- a shift to the left by d: times 2 to the d -/
theorem shl_32 {n d k : Nat} (h : k = n * 2 ^ d) (hd : d ≤ 31) (hk : k < 4294967296) (ho : op.op = .binOp .shl 54 x y 3) (hx : a.eval x = .int .u32 (n : Int)) (hy : a.eval y = .int .i64 (d : Int)) : (execOp a.eval op).run Try.prog w = .ok (.value (.int .u32 (k : Int))) w := by
 have h1 : ¬ (d : Int) < 0 := by omega
 have h2 : (d : Int).toNat = d := by omega
 have he : (n : Int) * 2 ^ d = (k : Int) := by rw [h, Int.natCast_mul, Int.natCast_pow]; rfl
 have hw : IntKind.u32.wrap (k : Int) = (k : Int) := by rw [IntKind.wrap_u32]; omega
 have hm : (k : Int) % 4294967296 = (k : Int) := by omega
 have h3 : d < 32 := by omega
 clear h
 unfold execOp
 simp only [ho, hx, hy]
 go_simp
theorem shr_32 {n d k : Nat} (h : k = n / 2 ^ d) (hd : d ≤ 31) (hn : n < 4294967296) (ho : op.op = .binOp .shr 54 x y 3) (hx : a.eval x = .int .u32 (n : Int)) (hy : a.eval y = .int .i64 (d : Int)) : (execOp a.eval op).run Try.prog w = .ok (.value (.int .u32 (k : Int))) w := by
 have h1 : ¬ (d : Int) < 0 := by omega
 have h2 : (d : Int).toNat = d := by omega
 have hk : k ≤ n := by rw [h]; exact Nat.div_le_self _ _
 have he : (n : Int) / 2 ^ d = (k : Int) := by rw [h, Int.natCast_ediv, Int.natCast_pow]; rfl
 have hw : IntKind.u32.wrap (k : Int) = (k : Int) := by rw [IntKind.wrap_u32]; omega
 have hm : (k : Int) % 4294967296 = (k : Int) := by omega
 have h3 : d < 32 := by omega
 clear h
 unfold execOp
 simp only [ho, hx, hy]
 go_simp
end
end Go.Proofs.Ytfcgdjgfdbcddaa
