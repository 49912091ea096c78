/-
 OPERATIONS on polynomials of 32 bits in memory, and on their numbers.
-/
import Derived.Test.YtflalpcceeocaaaDd1
import Derived.Test.YtflalpcceeocaaaDg1
import Derived.Test.YtflalpcceeocaaaHand
import Derived.Test.YtflalpcceeocaaaHand2
import Derived.Test.YtflalpcceeocaaaKLa
import Derived.Test.YtflalpcceeocaaaCov0
namespace Go.Proofs.Ytflalpcceeocaaa
open Go.RowKit
set_option maxRecDepth 100000
def polyD (p : Nat → Int) : Value := .agg (dc p).toArray
/-- the answer is a polynomial, and what was in memory stays -/
def DPolyIs (w : World) (p : Nat → Int) (e : Ending) (w' : World) : Prop := e = .returned (.agg (dc p).toArray) ∧ Below w.heap.size w w'
/-- two polynomials -/
def TwoIs (w : World) (p r : Nat → Int) (e : Ending) (w' : World) : Prop := e = .returned (.tuple #[.agg (dc p).toArray, .agg (dc r).toArray]) ∧ Below w.heap.size w w'
/-- a number of 32 bits, and the world is as it was -/
def I32Is (w : World) (n : Int) (e : Ending) (w' : World) : Prop := e = .returned (.int .i32 n) ∧ w = w'
def I32Bl (w : World) (n : Int) (e : Ending) (w' : World) : Prop := e = .returned (.int .i32 n) ∧ Below w.heap.size w w'
def I64Is (w : World) (n : Int) (e : Ending) (w' : World) : Prop := e = .returned (.int .i64 n) ∧ w = w'
def i32 (n : Int) : Prop := -2147483648 ≤ n ∧ n ≤ 2147483647
def i64 (n : Int) : Prop := -9223372036854775808 ≤ n ∧ n ≤ 9223372036854775807
theorem belA (w : World) (o : Obj) : Below w.heap.size w (w.alloc o) := Below.alloc (Below.refl _ _) (Nat.le_refl _) _
theorem size_dc (p : Nat → Int) : some 256 = some (dc p).length := by rw [dc_length]
theorem same_dc (p r : Nat → Int) : (dc p).length = (dc r).length := by rw [dc_length, dc_length]

theorem info_dD : (Try.prog.info? 34).map (·.size) = some 256 := by kernel_rfl
theorem zero_dD (W : World) : (zeroValue 34).run Try.prog W = .ok (.agg (dc fun _ => 0).toArray) W := by kernel_rfl
theorem run_idx_dD (W : World) (l : List Value) (k : Nat) (v : Value) (hk : k < 256) (h : l[k]? = some v) : (Instr.index 34 (.agg l.toArray) (.int .i64 (k : Int))).run Try.prog W = .ok v W := by
 have hT : Try.prog.underlying 34 = some (.array 256 21) := Try.underlying34
 have h2 : (0 : Int) ≤ (k : Int) ∧ (k : Int) < (256 : Int) := by omega
 have h3 : (k : Int).toNat = k := by omega
 have h4 : l.toArray[k]? = some v := by simpa using h
 have h6 := Try.underlying21
 have hs : (sizeOf 21).run Try.prog W = .ok 1 W := by kernel_rfl
 simp [Instr.index, asIntOf, h2, part, isAgg, run_underlying hT, run_underlying h6, hs, h, -Int.natCast_nonneg]
 exact fun q => absurd hk (by omega)
section
variable {ops : Array Oper} {rest : List Oper} {o : Oper} {a : Act} {w : World} {Q : Exit → Act → World → Prop} {x y : Operand} {op : Oper}
theorem run_alloc_dD (ho : op.op = .alloc 34) : (execOp a.eval op).run Try.prog w = .ok (.value (.pointer (some ⟨w.heap.size, 0, none⟩))) (w.alloc (.cells (dc fun _ => 0).toArray 34)) := by
 have hz := zero_dD w
 unfold execOp
 simp only [ho]
 generalize dc (fun _ => 0) = z at *
 go_simp
theorem wl_allocD (hgd : o.guard = none) (ho : o.op = .alloc 34) (h : wpList Try.prog ops Q rest (a.put o.dst (.pointer (some ⟨w.heap.size, 0, none⟩))) (w.alloc (.cells (dc fun _ => 0).toArray 34))) : wpList Try.prog ops Q (o :: rest) a w :=
 wl_valueW (.pointer (some ⟨w.heap.size, 0, none⟩)) (w.alloc (.cells (dc fun _ => 0).toArray 34)) hgd (run_alloc_dD ho) h
/-- a new variable, its block under a name -/
theorem wl_newzD (d : Nat) (hgd : o.guard = none) (hd : o.dst = some d) (ho : o.op = .alloc 34)
 (h : ∀ g w2, Shh (g = w.heap.size) → Row w2 g 34 (dc fun _ => 0) → Below w.heap.size w w2 → wpList Try.prog ops Q rest (a.put (some d) (.pointer (some ⟨g, 0, none⟩))) w2) : wpList Try.prog ops Q (o :: rest) a w := by
 refine wl_allocD hgd ho ?_
 rw [hd]
 exact h _ _ ⟨rfl⟩ (Row.new_ rfl rfl) (belA _ _)
/-- a new variable that is filled at once -/
theorem wl_newdD {o1 o2 : Oper} (d : Nat) (q : Nat → Int) (hg1 : o1.guard = none) (hg2 : o2.guard = none) (hd : o1.dst = some d) (hd2 : o2.dst = none) (h1 : o1.op = .alloc 34) (h2 : o2.op = .store 34 (.tmp d) y)
 (hx : (a.put (some d) (.pointer (some ⟨w.heap.size, 0, none⟩))).eval (.tmp d) = .pointer (some ⟨w.heap.size, 0, none⟩)) (hy : (a.put (some d) (.pointer (some ⟨w.heap.size, 0, none⟩))).eval y = .agg (dc q).toArray)
 (h : ∀ g w2, Shh (g = w.heap.size) → Row w2 g 34 (dc q) → Below w.heap.size w w2 → wpList Try.prog ops Q rest (a.put (some d) (.pointer (some ⟨g, 0, none⟩))) w2) : wpList Try.prog ops Q (o1 :: o2 :: rest) a w := by
 refine wl_allocD hg1 h1 ?_
 rw [hd]
 refine wpList_store_any hg2 34 (.tmp d) y h2 w.heap.size hx (dc q) hy 34 (dc fun _ => 0) (Row.new_ rfl rfl) (info_dD.trans (size_dc q)) (same_dc _ _) (dc_one q) ?_
 intro w2 r b z
 rw [hd2]
 exact h _ w2 ⟨rfl⟩ r ((belA w _).trans (b.under (by rw [asz]; omega) (Nat.le_refl _)))
theorem at_dD {g k : Nat} (hk : k < 256) (ho : op.op = .indexAddr 34 x y) (hx : a.eval x = .pointer (some ⟨g, 0, none⟩)) (hy : a.eval y = .int .i64 (k : Int)) : (execOp a.eval op).run Try.prog w = .ok (.value (.pointer (some ⟨g, k, none⟩))) w := by
 have h1 : (k : Int) < 256 := by omega
 have h2 : (0 : Int) ≤ (k : Int) := by omega
 unfold execOp
 simp only [ho, hx, hy]
 go_simp
theorem idx_dD {k : Nat} {l : List Value} {v : Value} (hk : k < 256) (h : l[k]? = some v) (ho : op.op = .index 34 x y) (hx : a.eval x = .agg l.toArray) (hy : a.eval y = .int .i64 (k : Int)) : (execOp a.eval op).run Try.prog w = .ok (.value v) w := by
 have h1 := run_idx_dD w l k v hk h
 unfold execOp
 simp only [ho, hx, hy]
 go_simp
end

theorem info_dA : (Try.prog.info? 33).map (·.size) = some 256 := by kernel_rfl
theorem zero_dA (W : World) : (zeroValue 33).run Try.prog W = .ok (.agg (dc fun _ => 0).toArray) W := by kernel_rfl
theorem run_idx_dA (W : World) (l : List Value) (k : Nat) (v : Value) (hk : k < 256) (h : l[k]? = some v) : (Instr.index 33 (.agg l.toArray) (.int .i64 (k : Int))).run Try.prog W = .ok v W := by
 have hT : Try.prog.underlying 33 = some (.array 256 21) := Try.underlying33
 have h2 : (0 : Int) ≤ (k : Int) ∧ (k : Int) < (256 : Int) := by omega
 have h3 : (k : Int).toNat = k := by omega
 have h4 : l.toArray[k]? = some v := by simpa using h
 have h6 := Try.underlying21
 have hs : (sizeOf 21).run Try.prog W = .ok 1 W := by kernel_rfl
 simp [Instr.index, asIntOf, h2, part, isAgg, run_underlying hT, run_underlying h6, hs, h, -Int.natCast_nonneg]
 exact fun q => absurd hk (by omega)
section
variable {ops : Array Oper} {rest : List Oper} {o : Oper} {a : Act} {w : World} {Q : Exit → Act → World → Prop} {x y : Operand} {op : Oper}
theorem run_alloc_dA (ho : op.op = .alloc 33) : (execOp a.eval op).run Try.prog w = .ok (.value (.pointer (some ⟨w.heap.size, 0, none⟩))) (w.alloc (.cells (dc fun _ => 0).toArray 33)) := by
 have hz := zero_dA w
 unfold execOp
 simp only [ho]
 generalize dc (fun _ => 0) = z at *
 go_simp
theorem wl_allocA (hgd : o.guard = none) (ho : o.op = .alloc 33) (h : wpList Try.prog ops Q rest (a.put o.dst (.pointer (some ⟨w.heap.size, 0, none⟩))) (w.alloc (.cells (dc fun _ => 0).toArray 33))) : wpList Try.prog ops Q (o :: rest) a w :=
 wl_valueW (.pointer (some ⟨w.heap.size, 0, none⟩)) (w.alloc (.cells (dc fun _ => 0).toArray 33)) hgd (run_alloc_dA ho) h
/-- a new variable, its block under a name -/
theorem wl_newzA (d : Nat) (hgd : o.guard = none) (hd : o.dst = some d) (ho : o.op = .alloc 33)
 (h : ∀ g w2, Shh (g = w.heap.size) → Row w2 g 33 (dc fun _ => 0) → Below w.heap.size w w2 → wpList Try.prog ops Q rest (a.put (some d) (.pointer (some ⟨g, 0, none⟩))) w2) : wpList Try.prog ops Q (o :: rest) a w := by
 refine wl_allocA hgd ho ?_
 rw [hd]
 exact h _ _ ⟨rfl⟩ (Row.new_ rfl rfl) (belA _ _)
/-- a new variable that is filled at once -/
theorem wl_newdA {o1 o2 : Oper} (d : Nat) (q : Nat → Int) (hg1 : o1.guard = none) (hg2 : o2.guard = none) (hd : o1.dst = some d) (hd2 : o2.dst = none) (h1 : o1.op = .alloc 33) (h2 : o2.op = .store 33 (.tmp d) y)
 (hx : (a.put (some d) (.pointer (some ⟨w.heap.size, 0, none⟩))).eval (.tmp d) = .pointer (some ⟨w.heap.size, 0, none⟩)) (hy : (a.put (some d) (.pointer (some ⟨w.heap.size, 0, none⟩))).eval y = .agg (dc q).toArray)
 (h : ∀ g w2, Shh (g = w.heap.size) → Row w2 g 33 (dc q) → Below w.heap.size w w2 → wpList Try.prog ops Q rest (a.put (some d) (.pointer (some ⟨g, 0, none⟩))) w2) : wpList Try.prog ops Q (o1 :: o2 :: rest) a w := by
 refine wl_allocA hg1 h1 ?_
 rw [hd]
 refine wpList_store_any hg2 33 (.tmp d) y h2 w.heap.size hx (dc q) hy 33 (dc fun _ => 0) (Row.new_ rfl rfl) (info_dA.trans (size_dc q)) (same_dc _ _) (dc_one q) ?_
 intro w2 r b z
 rw [hd2]
 exact h _ w2 ⟨rfl⟩ r ((belA w _).trans (b.under (by rw [asz]; omega) (Nat.le_refl _)))
theorem at_dA {g k : Nat} (hk : k < 256) (ho : op.op = .indexAddr 33 x y) (hx : a.eval x = .pointer (some ⟨g, 0, none⟩)) (hy : a.eval y = .int .i64 (k : Int)) : (execOp a.eval op).run Try.prog w = .ok (.value (.pointer (some ⟨g, k, none⟩))) w := by
 have h1 : (k : Int) < 256 := by omega
 have h2 : (0 : Int) ≤ (k : Int) := by omega
 unfold execOp
 simp only [ho, hx, hy]
 go_simp
theorem idx_dA {k : Nat} {l : List Value} {v : Value} (hk : k < 256) (h : l[k]? = some v) (ho : op.op = .index 33 x y) (hx : a.eval x = .agg l.toArray) (hy : a.eval y = .int .i64 (k : Int)) : (execOp a.eval op).run Try.prog w = .ok (.value v) w := by
 have h1 := run_idx_dA w l k v hk h
 unfold execOp
 simp only [ho, hx, hy]
 go_simp
end

section
variable {ops : Array Oper} {rest : List Oper} {o : Oper} {a : Act} {w : World} {Q : Exit → Act → World → Prop} {x y : Operand} {op : Oper}
theorem wl_at (d : Nat) (hd : o.dst = some d) (v : Value) (hgd : o.guard = none) (hrun : (execOp a.eval o).run Try.prog w = .ok (.value v) w) {a2 : Act} (h : wpList Try.prog ops Q rest a2 w) (ha : a.put (some d) v = a2 := by ((try simp only [Act.put, arr9, hd9, tl9]); rfl)) : wpList Try.prog ops Q (o :: rest) a w := wl_value v hgd hrun (by rw [hd, ha]; exact h)
theorem load_d {q : Addr} {n : Int} (ho : op.op = .load 21 x) (hc : w.cell? q = some (.int .i32 n)) (hx : a.eval x = .pointer (some q)) : (execOp a.eval op).run Try.prog w = .ok (.value (.int .i32 n)) w := by
 unfold execOp
 simp only [ho, hx]
 go_simp
theorem run_storeD {g k : Nat} {v : Int} {T : TypeId} {q : Nat → Int} (hk : k < 256) (hr : Row w g T (dc q)) (ho : op.op = .store 21 x y) (hx : a.eval x = .pointer (some ⟨g, k, none⟩)) (hy : a.eval y = .int .i32 v) : (execOp a.eval op).run Try.prog w = .ok .skip (w.setCell ⟨g, k, none⟩ (.int .i32 v)) := by
 have hc := hr.cell k
 rw [dc_get _ hk] at hc
 have hf := hr.free k
 unfold execOp
 simp only [ho, hx, hy]
 go_simp
theorem wl_storeD {g k : Nat} {v : Int} {T : TypeId} {q : Nat → Int} (hgd : o.guard = none) (hk : k < 256) (ho : o.op = .store 21 x y) (hx : a.eval x = .pointer (some ⟨g, k, none⟩)) (hy : a.eval y = .int .i32 v) (hr : Row w g T (dc q))
 (h : ∀ w2, Row w2 g T (dc (dup q k v)) → But w.heap.size g w w2 → w2.heap.size = w.heap.size → wpList Try.prog ops Q rest (a.put o.dst undef) w2) : wpList Try.prog ops Q (o :: rest) a w := by
 have hs := hr.set_ k (.int .i32 v)
 rw [dc_set] at hs
 refine wpList_plain hgd fun K hK => ?_
 unfold Oper.wp
 rw [run_storeD hk hr ho hx hy]
 exact hK _ _ (h _ hs ((But.refl _ _ _).setCell _ _) (by simp [World.setCell]))
end
section
variable {md : Region.Mode} {ops : Array Oper} {Q : Exit → Act → World → Prop} {S : World → Prop} {fuel : Nat} {listed : Array Bool} {a : Act} {w : World}
/-- a store into a polynomial, in a drawn region -/
theorem step_storeD (i : Nat) {x y : Operand} (hop : (ops[i]?).map (fun o => (o.op, o.type, o.dst)) = some (.store 21 x y, 0, none)) (hw : (ops[i]?).map (fun o => Region.wanted o (yielded ops a.tmps)) = some true)
 {g k : Nat} {v : Int} {T : TypeId} {q : Nat → Int} (hk : k < 256) (hr : Row w g T (dc q)) (hx : a.eval x = .pointer (some ⟨g, k, none⟩)) (hy : a.eval y = .int .i32 v)
 (h : ∀ w2, Row w2 g T (dc (dup q k v)) → But w.heap.size g w w2 → w2.heap.size = w.heap.size → S w2 ∧ wpAnyH Try.prog md ops Q S fuel (listed.setIfInBounds i true) a w2) : HStep Try.prog md ops Q S fuel listed a w i := by
 have hs := hr.set_ k (.int .i32 v)
 rw [dc_set] at hs
 exact step_store1 i _ hop hw (w.setCell ⟨g, k, none⟩ (.int .i32 v)) (run_storeD hk hr rfl hx hy) (h _ hs ((But.refl _ _ _).setCell _ _) (by simp [World.setCell]))
end
section
variable {a : Act} {w : World} {x y : Operand} {op : Oper}
theorem add_d {i j k : Int} (h : k = i + j ∧ -2147483648 ≤ k ∧ k ≤ 2147483647) (ho : op.op = .binOp .add 21 x y 21) (hx : a.eval x = .int .i32 i) (hy : a.eval y = .int .i32 j) : (execOp a.eval op).run Try.prog w = .ok (.value (.int .i32 k)) w := by
 have hw : IntKind.i32.wrap (i + j) = k := by rw [← h.1, IntKind.wrap_i32]; omega
 clear h
 unfold execOp
 simp only [ho, hx, hy]
 go_simp
theorem sub_d {i j k : Int} (h : k = i - j ∧ -2147483648 ≤ k ∧ k ≤ 2147483647) (ho : op.op = .binOp .sub 21 x y 21) (hx : a.eval x = .int .i32 i) (hy : a.eval y = .int .i32 j) : (execOp a.eval op).run Try.prog w = .ok (.value (.int .i32 k)) w := by
 have hw : IntKind.i32.wrap (i - j) = k := by rw [← h.1, IntKind.wrap_i32]; omega
 clear h
 unfold execOp
 simp only [ho, hx, hy]
 go_simp
theorem mul_d {i j k : Int} (h : k = i * j ∧ -2147483648 ≤ k ∧ k ≤ 2147483647) (ho : op.op = .binOp .mul 21 x y 21) (hx : a.eval x = .int .i32 i) (hy : a.eval y = .int .i32 j) : (execOp a.eval op).run Try.prog w = .ok (.value (.int .i32 k)) w := by
 have hw : IntKind.i32.wrap (i * j) = k := by rw [← h.1, IntKind.wrap_i32]; omega
 clear h
 unfold execOp
 simp only [ho, hx, hy]
 go_simp
theorem rem_d {i j k : Int} (h : k = i.tmod j ∧ -2147483648 ≤ k ∧ k ≤ 2147483647) (hj : j ≠ 0) (ho : op.op = .binOp .rem 21 x y 21) (hx : a.eval x = .int .i32 i) (hy : a.eval y = .int .i32 j) : (execOp a.eval op).run Try.prog w = .ok (.value (.int .i32 k)) w := by
 have hw : IntKind.i32.wrap (i.tmod j) = k := by rw [← h.1, IntKind.wrap_i32]; omega
 have hk := h.1.symm
 have hw2 : IntKind.i32.wrap k = k := by rw [IntKind.wrap_i32]; omega
 clear h
 unfold execOp
 simp only [ho, hx, hy]
 go_simp
theorem quo_d {i j k : Int} (h : k = i.tdiv j ∧ -2147483648 ≤ k ∧ k ≤ 2147483647) (hj : j ≠ 0) (ho : op.op = .binOp .quo 21 x y 21) (hx : a.eval x = .int .i32 i) (hy : a.eval y = .int .i32 j) : (execOp a.eval op).run Try.prog w = .ok (.value (.int .i32 k)) w := by
 have hw : IntKind.i32.wrap (i.tdiv j) = k := by rw [← h.1, IntKind.wrap_i32]; omega
 have hk := h.1.symm
 have hw2 : IntKind.i32.wrap k = k := by rw [IntKind.wrap_i32]; omega
 clear h
 unfold execOp
 simp only [ho, hx, hy]
 go_simp
theorem eql_d {i j : Int} (b : Bool) (h : (i == j) = b) (ho : op.op = .binOp .eql 21 x y 21) (hx : a.eval x = .int .i32 i) (hy : a.eval y = .int .i32 j) : (execOp a.eval op).run Try.prog w = .ok (.value (.bool b)) w := by
 subst h
 unfold execOp
 simp only [ho, hx, hy]
 go_simp
theorem neq_d {i j : Int} (b : Bool) (h : (i != j) = b) (ho : op.op = .binOp .neq 21 x y 21) (hx : a.eval x = .int .i32 i) (hy : a.eval y = .int .i32 j) : (execOp a.eval op).run Try.prog w = .ok (.value (.bool b)) w := by
 subst h
 unfold execOp
 simp only [ho, hx, hy]
 go_simp
theorem gtr_d {i j : Int} (b : Bool) (h : (decide (j < i)) = b) (ho : op.op = .binOp .gtr 21 x y 21) (hx : a.eval x = .int .i32 i) (hy : a.eval y = .int .i32 j) : (execOp a.eval op).run Try.prog w = .ok (.value (.bool b)) w := by
 subst h
 unfold execOp
 simp only [ho, hx, hy]
 go_simp
theorem lss_d {i j : Int} (b : Bool) (h : (decide (i < j)) = b) (ho : op.op = .binOp .lss 21 x y 21) (hx : a.eval x = .int .i32 i) (hy : a.eval y = .int .i32 j) : (execOp a.eval op).run Try.prog w = .ok (.value (.bool b)) w := by
 subst h
 unfold execOp
 simp only [ho, hx, hy]
 go_simp
theorem geq_d {i j : Int} (b : Bool) (h : (decide (j ≤ i)) = b) (ho : op.op = .binOp .geq 21 x y 21) (hx : a.eval x = .int .i32 i) (hy : a.eval y = .int .i32 j) : (execOp a.eval op).run Try.prog w = .ok (.value (.bool b)) w := by
 subst h
 unfold execOp
 simp only [ho, hx, hy]
 go_simp
theorem add_l {i j k : Int} (h : k = i + j ∧ -9223372036854775808 ≤ k ∧ k ≤ 9223372036854775807) (ho : op.op = .binOp .add 2 x y 2) (hx : a.eval x = .int .i64 i) (hy : a.eval y = .int .i64 j) : (execOp a.eval op).run Try.prog w = .ok (.value (.int .i64 k)) w := by
 have hw : IntKind.i64.wrap (i + j) = k := by rw [← h.1, IntKind.wrap_i64]; omega
 clear h
 unfold execOp
 simp only [ho, hx, hy]
 go_simp
theorem sub_l {i j k : Int} (h : k = i - j ∧ -9223372036854775808 ≤ k ∧ k ≤ 9223372036854775807) (ho : op.op = .binOp .sub 2 x y 2) (hx : a.eval x = .int .i64 i) (hy : a.eval y = .int .i64 j) : (execOp a.eval op).run Try.prog w = .ok (.value (.int .i64 k)) w := by
 have hw : IntKind.i64.wrap (i - j) = k := by rw [← h.1, IntKind.wrap_i64]; omega
 clear h
 unfold execOp
 simp only [ho, hx, hy]
 go_simp
theorem mul_l {i j k : Int} (h : k = i * j ∧ -9223372036854775808 ≤ k ∧ k ≤ 9223372036854775807) (ho : op.op = .binOp .mul 2 x y 2) (hx : a.eval x = .int .i64 i) (hy : a.eval y = .int .i64 j) : (execOp a.eval op).run Try.prog w = .ok (.value (.int .i64 k)) w := by
 have hw : IntKind.i64.wrap (i * j) = k := by rw [← h.1, IntKind.wrap_i64]; omega
 clear h
 unfold execOp
 simp only [ho, hx, hy]
 go_simp
theorem rem_l {i j k : Int} (h : k = i.tmod j ∧ -9223372036854775808 ≤ k ∧ k ≤ 9223372036854775807) (hj : j ≠ 0) (ho : op.op = .binOp .rem 2 x y 2) (hx : a.eval x = .int .i64 i) (hy : a.eval y = .int .i64 j) : (execOp a.eval op).run Try.prog w = .ok (.value (.int .i64 k)) w := by
 have hw : IntKind.i64.wrap (i.tmod j) = k := by rw [← h.1, IntKind.wrap_i64]; omega
 have hk := h.1.symm
 have hw2 : IntKind.i64.wrap k = k := by rw [IntKind.wrap_i64]; omega
 clear h
 unfold execOp
 simp only [ho, hx, hy]
 go_simp
theorem quo_l {i j k : Int} (h : k = i.tdiv j ∧ -9223372036854775808 ≤ k ∧ k ≤ 9223372036854775807) (hj : j ≠ 0) (ho : op.op = .binOp .quo 2 x y 2) (hx : a.eval x = .int .i64 i) (hy : a.eval y = .int .i64 j) : (execOp a.eval op).run Try.prog w = .ok (.value (.int .i64 k)) w := by
 have hw : IntKind.i64.wrap (i.tdiv j) = k := by rw [← h.1, IntKind.wrap_i64]; omega
 have hk := h.1.symm
 have hw2 : IntKind.i64.wrap k = k := by rw [IntKind.wrap_i64]; omega
 clear h
 unfold execOp
 simp only [ho, hx, hy]
 go_simp
theorem eql_l {i j : Int} (b : Bool) (h : (i == j) = b) (ho : op.op = .binOp .eql 2 x y 2) (hx : a.eval x = .int .i64 i) (hy : a.eval y = .int .i64 j) : (execOp a.eval op).run Try.prog w = .ok (.value (.bool b)) w := by
 subst h
 unfold execOp
 simp only [ho, hx, hy]
 go_simp
theorem neq_l {i j : Int} (b : Bool) (h : (i != j) = b) (ho : op.op = .binOp .neq 2 x y 2) (hx : a.eval x = .int .i64 i) (hy : a.eval y = .int .i64 j) : (execOp a.eval op).run Try.prog w = .ok (.value (.bool b)) w := by
 subst h
 unfold execOp
 simp only [ho, hx, hy]
 go_simp
theorem gtr_l {i j : Int} (b : Bool) (h : (decide (j < i)) = b) (ho : op.op = .binOp .gtr 2 x y 2) (hx : a.eval x = .int .i64 i) (hy : a.eval y = .int .i64 j) : (execOp a.eval op).run Try.prog w = .ok (.value (.bool b)) w := by
 subst h
 unfold execOp
 simp only [ho, hx, hy]
 go_simp
theorem lss_l {i j : Int} (b : Bool) (h : (decide (i < j)) = b) (ho : op.op = .binOp .lss 2 x y 2) (hx : a.eval x = .int .i64 i) (hy : a.eval y = .int .i64 j) : (execOp a.eval op).run Try.prog w = .ok (.value (.bool b)) w := by
 subst h
 unfold execOp
 simp only [ho, hx, hy]
 go_simp
theorem geq_l {i j : Int} (b : Bool) (h : (decide (j ≤ i)) = b) (ho : op.op = .binOp .geq 2 x y 2) (hx : a.eval x = .int .i64 i) (hy : a.eval y = .int .i64 j) : (execOp a.eval op).run Try.prog w = .ok (.value (.bool b)) w := by
 subst h
 unfold execOp
 simp only [ho, hx, hy]
 go_simp
theorem add_n {i j k : Int} (h : k = i + j ∧ -9223372036854775808 ≤ k ∧ k ≤ 9223372036854775807) (ho : op.op = .binOp .add 3 x y 3) (hx : a.eval x = .int .i64 i) (hy : a.eval y = .int .i64 j) : (execOp a.eval op).run Try.prog w = .ok (.value (.int .i64 k)) w := by
 have hw : IntKind.i64.wrap (i + j) = k := by rw [← h.1, IntKind.wrap_i64]; omega
 clear h
 unfold execOp
 simp only [ho, hx, hy]
 go_simp
theorem sub_n {i j k : Int} (h : k = i - j ∧ -9223372036854775808 ≤ k ∧ k ≤ 9223372036854775807) (ho : op.op = .binOp .sub 3 x y 3) (hx : a.eval x = .int .i64 i) (hy : a.eval y = .int .i64 j) : (execOp a.eval op).run Try.prog w = .ok (.value (.int .i64 k)) w := by
 have hw : IntKind.i64.wrap (i - j) = k := by rw [← h.1, IntKind.wrap_i64]; omega
 clear h
 unfold execOp
 simp only [ho, hx, hy]
 go_simp
theorem mul_n {i j k : Int} (h : k = i * j ∧ -9223372036854775808 ≤ k ∧ k ≤ 9223372036854775807) (ho : op.op = .binOp .mul 3 x y 3) (hx : a.eval x = .int .i64 i) (hy : a.eval y = .int .i64 j) : (execOp a.eval op).run Try.prog w = .ok (.value (.int .i64 k)) w := by
 have hw : IntKind.i64.wrap (i * j) = k := by rw [← h.1, IntKind.wrap_i64]; omega
 clear h
 unfold execOp
 simp only [ho, hx, hy]
 go_simp
theorem rem_n {i j k : Int} (h : k = i.tmod j ∧ -9223372036854775808 ≤ k ∧ k ≤ 9223372036854775807) (hj : j ≠ 0) (ho : op.op = .binOp .rem 3 x y 3) (hx : a.eval x = .int .i64 i) (hy : a.eval y = .int .i64 j) : (execOp a.eval op).run Try.prog w = .ok (.value (.int .i64 k)) w := by
 have hw : IntKind.i64.wrap (i.tmod j) = k := by rw [← h.1, IntKind.wrap_i64]; omega
 have hk := h.1.symm
 have hw2 : IntKind.i64.wrap k = k := by rw [IntKind.wrap_i64]; omega
 clear h
 unfold execOp
 simp only [ho, hx, hy]
 go_simp
theorem quo_n {i j k : Int} (h : k = i.tdiv j ∧ -9223372036854775808 ≤ k ∧ k ≤ 9223372036854775807) (hj : j ≠ 0) (ho : op.op = .binOp .quo 3 x y 3) (hx : a.eval x = .int .i64 i) (hy : a.eval y = .int .i64 j) : (execOp a.eval op).run Try.prog w = .ok (.value (.int .i64 k)) w := by
 have hw : IntKind.i64.wrap (i.tdiv j) = k := by rw [← h.1, IntKind.wrap_i64]; omega
 have hk := h.1.symm
 have hw2 : IntKind.i64.wrap k = k := by rw [IntKind.wrap_i64]; omega
 clear h
 unfold execOp
 simp only [ho, hx, hy]
 go_simp
theorem eql_n {i j : Int} (b : Bool) (h : (i == j) = b) (ho : op.op = .binOp .eql 3 x y 3) (hx : a.eval x = .int .i64 i) (hy : a.eval y = .int .i64 j) : (execOp a.eval op).run Try.prog w = .ok (.value (.bool b)) w := by
 subst h
 unfold execOp
 simp only [ho, hx, hy]
 go_simp
theorem neq_n {i j : Int} (b : Bool) (h : (i != j) = b) (ho : op.op = .binOp .neq 3 x y 3) (hx : a.eval x = .int .i64 i) (hy : a.eval y = .int .i64 j) : (execOp a.eval op).run Try.prog w = .ok (.value (.bool b)) w := by
 subst h
 unfold execOp
 simp only [ho, hx, hy]
 go_simp
theorem gtr_n {i j : Int} (b : Bool) (h : (decide (j < i)) = b) (ho : op.op = .binOp .gtr 3 x y 3) (hx : a.eval x = .int .i64 i) (hy : a.eval y = .int .i64 j) : (execOp a.eval op).run Try.prog w = .ok (.value (.bool b)) w := by
 subst h
 unfold execOp
 simp only [ho, hx, hy]
 go_simp
theorem lss_n {i j : Int} (b : Bool) (h : (decide (i < j)) = b) (ho : op.op = .binOp .lss 3 x y 3) (hx : a.eval x = .int .i64 i) (hy : a.eval y = .int .i64 j) : (execOp a.eval op).run Try.prog w = .ok (.value (.bool b)) w := by
 subst h
 unfold execOp
 simp only [ho, hx, hy]
 go_simp
theorem geq_n {i j : Int} (b : Bool) (h : (decide (j ≤ i)) = b) (ho : op.op = .binOp .geq 3 x y 3) (hx : a.eval x = .int .i64 i) (hy : a.eval y = .int .i64 j) : (execOp a.eval op).run Try.prog w = .ok (.value (.bool b)) w := by
 subst h
 unfold execOp
 simp only [ho, hx, hy]
 go_simp
theorem neg_d {i k : Int} (h : IntKind.i32.wrap (-i) = k) (ho : op.op = .unOp .neg 21 x) (hx : a.eval x = .int .i32 i) : (execOp a.eval op).run Try.prog w = .ok (.value (.int .i32 k)) w := by
 subst h
 unfold execOp
 simp only [ho, hx]
 go_simp
theorem conv_dl {n : Int} (h : i32 n) (ho : op.op = .convert 21 2 x) (hx : a.eval x = .int .i32 n) : (execOp a.eval op).run Try.prog w = .ok (.value (.int .i64 n)) w := by
 unfold i32 at h
 have hw : IntKind.i64.wrap n = n := by rw [IntKind.wrap_i64]; omega
 clear h
 unfold execOp
 simp only [ho, hx]
 go_simp
theorem conv_ld {n : Int} (h : i32 n) (ho : op.op = .convert 2 21 x) (hx : a.eval x = .int .i64 n) : (execOp a.eval op).run Try.prog w = .ok (.value (.int .i32 n)) w := by
 unfold i32 at h
 have hw : IntKind.i32.wrap n = n := by rw [IntKind.wrap_i32]; omega
 clear h
 unfold execOp
 simp only [ho, hx]
 go_simp
end
theorem run_loadRowD {P : Program} {a : Act} {w : World} {dst : Option Tmp} {ty T ty2 : TypeId} {x : Operand} {g : Nat} {cs : List Value} {d : TypeDesc} (hx : a.eval x = .pointer (some ⟨g, 0, none⟩)) (hr : Row w g T cs)
 (hu : P.underlying ty = some d) (hd : (match d with | .struct _ | .array _ _ => true | _ => false) = true) (hi : (P.info? ty).map (·.size) = some cs.length) : (execOp a.eval ⟨dst, .load ty x, ty2, "", #[], none⟩).run P w = .ok (.value (.agg cs.toArray)) w := by
 unfold execOp
 simp only [hx, Instr.loadAt, Instr.sureAddr, Sem.run_bind, Sem.run_pure, Result.andThen_ok, run_loadVar_row w g T ty cs.toArray (0, 0) d hr hu hd (by simpa using hi)]
section
variable {ops : Array Oper} {rest : List Oper} {o1 o2 o3 o4 : Oper} {a : Act} {w : World} {Q : Exit → Act → World → Prop} {y1 y2 : Operand}
/-- two new polynomials that are filled at once -/
theorem wl_new2 (d1 d2 : Nat) (q1 q2 : Nat → Int) (hg1 : o1.guard = none) (hg2 : o2.guard = none) (hg3 : o3.guard = none) (hg4 : o4.guard = none) (hd1 : o1.dst = some d1) (hd2 : o2.dst = some d2) (hd3 : o3.dst = none) (hd4 : o4.dst = none)
 (h1 : o1.op = .alloc 34) (h2 : o2.op = .alloc 34) (h3 : o3.op = .store 34 (.tmp d1) y1) (h4 : o4.op = .store 34 (.tmp d2) y2)
 (hx1 : ((a.put (some d1) (.pointer (some ⟨w.heap.size, 0, none⟩))).put (some d2) (.pointer (some ⟨w.heap.size + 1, 0, none⟩))).eval (.tmp d1) = .pointer (some ⟨w.heap.size, 0, none⟩))
 (hy1 : ((a.put (some d1) (.pointer (some ⟨w.heap.size, 0, none⟩))).put (some d2) (.pointer (some ⟨w.heap.size + 1, 0, none⟩))).eval y1 = .agg (dc q1).toArray)
 (hx2 : ((a.put (some d1) (.pointer (some ⟨w.heap.size, 0, none⟩))).put (some d2) (.pointer (some ⟨w.heap.size + 1, 0, none⟩))).eval (.tmp d2) = .pointer (some ⟨w.heap.size + 1, 0, none⟩))
 (hy2 : ((a.put (some d1) (.pointer (some ⟨w.heap.size, 0, none⟩))).put (some d2) (.pointer (some ⟨w.heap.size + 1, 0, none⟩))).eval y2 = .agg (dc q2).toArray)
 (h : ∀ g1 g2 w2, Shh (g1 = w.heap.size) → Shh (g2 = w.heap.size + 1) → Row w2 g1 34 (dc q1) → Row w2 g2 34 (dc q2) → Below w.heap.size w w2 → wpList Try.prog ops Q rest ((a.put (some d1) (.pointer (some ⟨g1, 0, none⟩))).put (some d2) (.pointer (some ⟨g2, 0, none⟩))) w2) : wpList Try.prog ops Q (o1 :: o2 :: o3 :: o4 :: rest) a w := by
 refine wl_allocD hg1 h1 ?_
 refine wl_allocD hg2 h2 ?_
 rw [hd1, hd2]
 have e : (w.alloc (.cells (dc fun _ => 0).toArray 34)).heap.size = w.heap.size + 1 := by rw [asz]
 rw [e]
 have r1 : Row ((w.alloc (.cells (dc fun _ => 0).toArray 34)).alloc (.cells (dc fun _ => 0).toArray 34)) w.heap.size 34 (dc fun _ => 0) := (Row.new_ rfl rfl).alloc _
 have r2 : Row ((w.alloc (.cells (dc fun _ => 0).toArray 34)).alloc (.cells (dc fun _ => 0).toArray 34)) (w.heap.size + 1) 34 (dc fun _ => 0) := Row.new_ (by rw [asz]) rfl
 have b0 : Below w.heap.size w ((w.alloc (.cells (dc fun _ => 0).toArray 34)).alloc (.cells (dc fun _ => 0).toArray 34)) := Below.chain (belA _ _) (belA _ _)
 have hs : w.heap.size + 2 = ((w.alloc (.cells (dc fun _ => 0).toArray 34)).alloc (.cells (dc fun _ => 0).toArray 34)).heap.size := by rw [asz, asz]
 generalize (w.alloc (.cells (dc fun _ => 0).toArray 34)).alloc (.cells (dc fun _ => 0).toArray 34) = W at *
 refine wpList_store_any hg3 34 (.tmp d1) y1 h3 w.heap.size hx1 (dc q1) hy1 34 (dc fun _ => 0) r1 (info_dD.trans (size_dc q1)) (same_dc _ _) (dc_one q1) ?_
 intro w2 s1 b1 z1
 rw [hd3]
 refine wpList_store_any hg4 34 (.tmp d2) y2 h4 (w.heap.size + 1) hx2 (dc q2) hy2 34 (dc fun _ => 0) (b1.row r2 (by omega) (by omega)) (info_dD.trans (size_dc q2)) (same_dc _ _) (dc_one q2) ?_
 intro w3 s2 b2 z2
 rw [hd4]
 exact h _ _ w3 ⟨rfl⟩ ⟨rfl⟩ (b2.row s1 (by omega) (by omega)) s2 ((b0.trans (b1.under (by omega) (Nat.le_refl _))).trans (b2.under (by omega) (by omega)))
end
theorem results_two {P : Program} {fn : Func} {p q : Tmp} {tp tq : TypeId} (h : fn.results = #[.cell p tp, .cell q tq]) (tmps : Array Value) (w : World) (a b : Addr) (va vb : Value)
  (hp : tmps.getD p undef = .pointer (some a)) (hq : tmps.getD q undef = .pointer (some b))
  (ha : (loadVar tp a).run P w = .ok va w) (hb : (loadVar tq b).run P w = .ok vb w) : (results fn tmps).run P w = .ok (.tuple #[va, vb]) w := by
 simp only [results, h]
 simp only [Array.getD_eq_getD_getElem?] at hp hq
 simp [Sem.run_bind, Result.andThen, hp, hq, ha, hb, asAddr]
theorem ret_two {f : Func} {a : Act} {p q : Tmp} {post : Ending → World → Prop} {w : World} {g k : Nat} {c1 c2 : Nat → Int} (hf : f.results = #[.cell p 34, .cell q 34]) (hdf : a.defers = []) (hp : a.tmps.getD p undef = .pointer (some ⟨g, 0, none⟩)) (hq : a.tmps.getD q undef = .pointer (some ⟨k, 0, none⟩)) (h1 : Row w g 34 (dc c1)) (h2 : Row w k 34 (dc c2)) (h : post (.returned (.tuple #[.agg (dc c1).toArray, .agg (dc c2).toArray])) w) : bodyPost Try.prog f post .ret a w :=
 bodyPost_ret (v := .tuple #[.agg (dc c1).toArray, .agg (dc c2).toArray]) (results_two hf _ _ _ _ _ _ hp hq (run_loadVar_row w g 34 34 (dc c1).toArray (0, 0) _ h1 Try.underlying34 rfl (by simpa using info_dD.trans (size_dc c1))) (run_loadVar_row w k 34 34 (dc c2).toArray (0, 0) _ h2 Try.underlying34 rfl (by simpa using info_dD.trans (size_dc c2)))) hdf h
end Go.Proofs.Ytflalpcceeocaaa
