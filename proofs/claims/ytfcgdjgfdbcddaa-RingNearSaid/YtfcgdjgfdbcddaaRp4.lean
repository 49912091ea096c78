/-
 ARRAYS of numbers; the product's sums, one summand after the other.
-/
import Derived.Test.YtfcgdjgfdbcddaaRp3
namespace Go.Proofs.Ytfcgdjgfdbcddaa
open Go.RowKit
set_option maxRecDepth 100000
def ic (n : Nat) (f : Nat → Nat) : List Value := (List.range n).map fun i => .int .i64 (f i : Int)
theorem ic_length (n : Nat) (p : Nat → Nat) : (ic n p).length = n := by simp [ic]
theorem ic_get {n : Nat} (p : Nat → Nat) {k : Nat} (h : k < n) : (ic n p)[k]? = some (.int .i64 (p k : Int)) := by
 unfold ic
 rw [List.getElem?_map, List.getElem?_range h]
 rfl
theorem ic_of {n : Nat} {p r : Nat → Nat} (h : ∀ i, i < n → p i = r i) : ic n p = ic n r := by
 unfold ic
 exact List.map_congr_left fun i hi => by rw [h i (List.mem_range.1 hi)]
theorem ic_set (n : Nat) (p : Nat → Nat) (k v : Nat) : (ic n p).set k (.int .i64 (v : Int)) = ic n (upd p k v) := by
 apply List.ext_getElem?
 intro i
 rw [List.getElem?_set]
 by_cases hi : i < n
 ·rw [ic_get _ hi]
  by_cases h : k = i
  ·subst h
   rw [if_pos rfl, if_pos (by rw [ic_length]; exact hi), ic_get _ hi]
   unfold upd
   rw [if_pos rfl]
  ·rw [if_neg h, ic_get _ hi]
   unfold upd
   rw [if_neg (fun q => h q.symm)]
 ·rw [List.getElem?_eq_none (l := ic n (upd p k v)) (by rw [ic_length]; omega)]
  by_cases h : k = i
  ·rw [if_pos h, if_neg (by rw [ic_length]; omega)]
  ·rw [if_neg h, List.getElem?_eq_none (by rw [ic_length]; omega)]
theorem zero_512 (W : World) : (zeroValue 47).run Try.prog W = .ok (.agg (ic 512 fun _ => 0).toArray) W := by kernel_rfl
theorem zero_128 (W : World) : (zeroValue 51).run Try.prog W = .ok (.agg (ic 128 fun _ => 0).toArray) W := by kernel_rfl
section
variable {ops : Array Oper} {rest : List Oper} {o : Oper} {a : Act} {w : World} {Q : Exit → Act → World → Prop} {x y : Operand} {op : Oper}
theorem wl_alloc512 (hgd : o.guard = none) (ho : o.op = .alloc 47) (h : wpList Try.prog ops Q rest (a.put o.dst (.pointer (some ⟨w.heap.size, 0, none⟩))) (w.alloc (.cells (ic 512 fun _ => 0).toArray 47))) : wpList Try.prog ops Q (o :: rest) a w := by
 refine wl_valueW (.pointer (some ⟨w.heap.size, 0, none⟩)) (w.alloc (.cells (ic 512 fun _ => 0).toArray 47)) hgd ?_ h
 have hz := zero_512 w
 unfold execOp
 simp only [ho]
 generalize ic 512 (fun _ => 0) = z at *
 go_simp
theorem wl_alloc128 (hgd : o.guard = none) (ho : o.op = .alloc 51) (h : wpList Try.prog ops Q rest (a.put o.dst (.pointer (some ⟨w.heap.size, 0, none⟩))) (w.alloc (.cells (ic 128 fun _ => 0).toArray 51))) : wpList Try.prog ops Q (o :: rest) a w := by
 refine wl_valueW (.pointer (some ⟨w.heap.size, 0, none⟩)) (w.alloc (.cells (ic 128 fun _ => 0).toArray 51)) hgd ?_ h
 have hz := zero_128 w
 unfold execOp
 simp only [ho]
 generalize ic 128 (fun _ => 0) = z at *
 go_simp
theorem at_512 {g k : Nat} (hk : k < 512) (ho : op.op = .indexAddr 47 x y) (hx : a.eval x = .pointer (some ⟨g, 0, none⟩)) (hy : a.eval y = .int .i64 (k : Int)) : (execOp a.eval op).run Try.prog w = .ok (.value (.pointer (some ⟨g, k, none⟩))) w := by
 have h1 : (k : Int) < 512 := by omega
 have h2 : (0 : Int) ≤ (k : Int) := by omega
 unfold execOp
 simp only [ho, hx, hy]
 go_simp
theorem at_128 {g k : Nat} (hk : k < 128) (ho : op.op = .indexAddr 51 x y) (hx : a.eval x = .pointer (some ⟨g, 0, none⟩)) (hy : a.eval y = .int .i64 (k : Int)) : (execOp a.eval op).run Try.prog w = .ok (.value (.pointer (some ⟨g, k, none⟩))) w := by
 have h1 : (k : Int) < 128 := by omega
 have h2 : (0 : Int) ≤ (k : Int) := by omega
 unfold execOp
 simp only [ho, hx, hy]
 go_simp
theorem load_ir {q : Addr} {n : Nat} (ho : op.op = .load 3 x) (hc : w.cell? q = some (.int .i64 (n : Int))) (hx : a.eval x = .pointer (some q)) : (execOp a.eval op).run Try.prog w = .ok (.value (.int .i64 (n : Int))) w := by
 unfold execOp
 simp only [ho, hx]
 go_simp
theorem run_storeI {g k v : Nat} {n : Nat} {T : TypeId} {q : Nat → Nat} (hk : k < n) (hr : Row w g T (ic n q)) (ho : op.op = .store 3 x y) (hx : a.eval x = .pointer (some ⟨g, k, none⟩)) (hy : a.eval y = .int .i64 (v : Int)) : (execOp a.eval op).run Try.prog w = .ok .skip (w.setCell ⟨g, k, none⟩ (.int .i64 (v : Int))) := by
 have hc := hr.cell k
 rw [ic_get _ hk] at hc
 have hf := hr.free k
 unfold execOp
 simp only [ho, hx, hy]
 go_simp
theorem run_storeP {g k v : Nat} {T : TypeId} {q : Nat → Nat} (hk : k < 256) (hr : Row w g T (pc q)) (ho : op.op = .store 22 x y) (hx : a.eval x = .pointer (some ⟨g, k, none⟩)) (hy : a.eval y = .int .u16 (v : Int)) : (execOp a.eval op).run Try.prog w = .ok .skip (w.setCell ⟨g, k, none⟩ (.int .u16 (v : Int))) := by
 have hc := hr.cell k
 rw [pc_get _ hk] at hc
 have hf := hr.free k
 unfold execOp
 simp only [ho, hx, hy]
 go_simp
end
theorem nS_le {f : Nat → Nat} {c : Nat} (h : ∀ i, f i ≤ c) : ∀ n, nS n f ≤ n * c
 | 0 => Nat.zero_le _
 | n + 1 => by
  show nS n f + f n ≤ (n + 1) * c
  rw [Nat.succ_mul]
  exact Nat.add_le_add (nS_le h n) (h n)
/-- the sums of the product, when i rows and k summands of the next are done -/
def sumP (A B : Nat → Nat) (i k m : Nat) : Nat := nS i (fun i' => nS 256 (fun k' => if i' + k' = m then A i' * B k' else 0)) + nS k (fun k' => if i + k' = m then A i * B k' else 0)
theorem sumP_zero (A B : Nat → Nat) : sumP A B 0 0 = fun _ => 0 := rfl
theorem sumP_row (A B : Nat → Nat) (i : Nat) : sumP A B i 256 = sumP A B (i + 1) 0 := by
 funext m
 rfl
theorem sumP_next (A B : Nat → Nat) (i k : Nat) : upd (sumP A B i k) (i + k) (sumP A B i k (i + k) + A i * B k) = sumP A B i (k + 1) := by
 funext m
 unfold upd
 by_cases h : m = i + k
 ·subst h
  rw [if_pos rfl]
  show _ = nS i _ + (nS k _ + (if i + k = i + k then A i * B k else 0))
  rw [if_pos rfl, ← Nat.add_assoc]
  rfl
 ·rw [if_neg h]
  show _ = nS i _ + (nS k _ + (if i + k = m then A i * B k else 0))
  rw [if_neg (fun q => h q.symm), Nat.add_zero]
  rfl
theorem sumP_le {A B : Nat → Nat} (hA : ∀ i, A i < 3329) (hB : ∀ i, B i < 3329) (i k m : Nat) (hi : i ≤ 256) (hk : k ≤ 256) : sumP A B i k m ≤ 800000000000 := by
 have h1 : ∀ i k, A i * B k ≤ 3328 * 3328 := fun i k => Nat.mul_le_mul (Nat.le_of_lt_succ (hA i)) (Nat.le_of_lt_succ (hB k))
 have h2 : ∀ i' k', (if i' + k' = m then A i' * B k' else 0) ≤ 3328 * 3328 := fun i' k' => by
  split
  ·exact h1 _ _
  ·exact Nat.zero_le _
 have h3 := nS_le (fun i' => nS_le (h2 i') 256) i
 have h4 := nS_le (h2 i) k
 unfold sumP
 refine Nat.le_trans (Nat.add_le_add h3 h4) ?_
 refine Nat.le_trans (Nat.add_le_add (Nat.mul_le_mul_right _ hi) (Nat.mul_le_mul_right _ hk)) (by decide)
theorem sumP_cnv (A B : Nat → Nat) (m : Nat) : ((sumP A B 256 0 m : Nat) : Int) = cnv (iP A) (iP B) m := by
 unfold sumP cnv
 show (((nS 256 _) + 0 : Nat) : Int) = _
 rw [Nat.add_zero, nS_int]
 refine rS_congr fun i _ => ?_
 rw [nS_int]
 refine rS_congr fun k _ => ?_
 split
 ·exact Int.natCast_mul _ _
 ·rfl
theorem mul_out (p r : Nat → Nat) (k : Nat) : (sumP (fun i => p i % 3329) (fun i => r i % 3329) 256 0 k % 3329 + 3329 - sumP (fun i => p i % 3329) (fun i => r i % 3329) 256 0 (k + 256) % 3329) % 3329 = mulN p r k := by
 have h : ∀ q : Nat → Nat, pM (iP fun i => q i % 3329) (iP q) := fun q k _ => rM_nat _
 have h1 : mulN p r k = rd (ngc (iP fun i => p i % 3329) (iP fun i => r i % 3329) k) := (rd_of (ngc_of (h p) (h r) k)).symm
 rw [h1]
 unfold ngc rd
 rw [← sumP_cnv, ← sumP_cnv]
 generalize sumP (fun i => p i % 3329) (fun i => r i % 3329) 256 0 k = x
 generalize sumP (fun i => p i % 3329) (fun i => r i % 3329) 256 0 (k + 256) = y
 omega
end Go.Proofs.Ytfcgdjgfdbcddaa
