/-
  THE TABLE OF CONSTANTS: what the row's list gives the walks; sums of two rows of words, cell by cell.
-/
import Derived.Test.YthafhghnciofaaaDoorSched
namespace Go.Proofs.YthafhghnciofaaaDoor
open Go.RowKit
set_option maxRecDepth 100000

/-- the listed variable holds the constants K(0) to K(63) -/
def Vars (w : World) : Prop := ∀ k, k < 64 → w.cell? ⟨0, k, none⟩ = some (.int .u32 ((cK.getD k 0).toNat : Int))
section
variable {w w' : World} {g : Nat}
theorem Vars.pos (h : Vars w) : 0 < w.heap.size := World.block_lt_of_cell? w _ (h 0 (by decide))
theorem Vars.step (h : Vars w) (hb : Below w.heap.size w w') : Vars w' := fun k hk => (hb.cell (World.block_lt_of_cell? w _ (h k hk))).trans (h k hk)
theorem Vars.but (h : Vars w) (hb : But w.heap.size g w w') (hg : 0 ≠ g) : Vars w' := fun k hk =>
  (hb.cell (p := ⟨0, k, none⟩) h.pos hg).trans (h k hk)
theorem Vars.drew (h : Vars w) : Vars w.drew := h
end

/-- the first k words of l have got those of m added -/
def addL (l m : List UInt32) (k : Nat) : List UInt32 := (List.zipWith (· + ·) l m).take k ++ l.drop k
theorem addL_zero (l m : List UInt32) : addL l m 0 = l := by simp [addL]
theorem addL_length (l m : List UInt32) (k : Nat) (h : l.length = m.length) (hk : k ≤ l.length) : (addL l m k).length = l.length := by
  simp [addL]; omega
theorem addL_get (l m : List UInt32) (k : Nat) (h : l.length = m.length) (hk : k < l.length) : (addL l m k)[k]? = some (l[k]) := by
  have h1 : ((List.zipWith (· + ·) l m).take k).length = k := by simp; omega
  rw [addL, List.getElem?_append_right (by omega), h1, Nat.sub_self, List.getElem?_drop, Nat.add_zero, List.getElem?_eq_getElem hk]
theorem addL_step (l m : List UInt32) (k : Nat) (h : l.length = m.length) (hk : k < l.length) : (addL l m k).set k (l[k] + m[k]'(by omega)) = addL l m (k + 1) := by
  have h1 : ((List.zipWith (· + ·) l m).take k).length = k := by simp; omega
  have h2 : l.drop k = l[k] :: l.drop (k + 1) := List.drop_eq_getElem_cons hk
  rw [addL, List.set_append_right _ _ (by omega), h1, Nat.sub_self, h2, List.set_cons_zero, addL, List.take_succ_eq_append_getElem (by simp; omega), List.append_assoc]
  simp
theorem addL_all (s v : St) : addL s.list v.list 8 = (addSt s v).list := rfl
theorem wordCells_arr_get (l : List UInt32) (k : Nat) (h : k < l.length) : (wordCells l).toArray[k]? = some (.int .u32 (l[k].toNat : Int)) := by
  simp [wordCells, List.getElem?_eq_getElem h]
theorem index_words (l : List UInt32) (hl : l.length = 8) (j : Nat) (hj : j < 8) (w : World) : (Instr.index 23 (.agg (wordCells l).toArray) (.int .i64 (j : Int))).run Tryd.prog w = .ok (.int .u32 ((l[j]'(by omega)).toNat : Int)) w := by
  have hg := wordCells_arr_get l j (by omega)
  generalize (wordCells l).toArray = arr at *
  simp [Instr.index, asIntOf, go_sem, hj, hg]
theorem info_w8 : (Tryd.prog.info? 23).map (·.size) = some 8 := by kernel_rfl
theorem info_b64 : (Tryd.prog.info? 24).map (·.size) = some 64 := by kernel_rfl
theorem info_b32 : (Tryd.prog.info? 33).map (·.size) = some 32 := by kernel_rfl
theorem info_b24 : (Tryd.prog.info? 35).map (·.size) = some 24 := by kernel_rfl
/-- a whole array is stored into a row: the world behind it under a name of its own -/
theorem wpList_store_any {P : Program} {ops : Array Oper} {rest : List Oper} {o : Oper} {a : Act} {w : World} {Q : Exit → Act → World → Prop} (hgd : o.guard = none) (ty : TypeId) (x y : Operand) (ho : o.op = .store ty x y)
    (g : Nat) (hx : a.eval x = .pointer (some ⟨g, 0, none⟩)) (ds : List Value) (hy : a.eval y = .agg ds.toArray)
    (t : TypeId) (cs : List Value) (hr : Row w g t cs) (hi : (P.info? ty).map (·.size) = some ds.length)
    (hold : cs.length = ds.length) (h1 : ∀ u ∈ ds, u.oneCell' = true)
    (h : ∀ w2, Row w2 g t ds → But w.heap.size g w w2 → w2.heap.size = w.heap.size → wpList P ops Q rest (a.put o.dst undef) w2) : wpList P ops Q (o :: rest) a w :=
  wpList_store_row hgd ty x y ho g ds.toArray hx hy t cs.toArray hr (by simpa using hi) (by simpa using hold) (all_oneCell_toArray h1)
    (h _ (hr.setRow ds) ⟨rfl, rfl, rfl, Nat.le_of_eq (by simp), fun k _ hk => Go.setRow_other w g k _ hk⟩ (by simp))
theorem wpList_load_any {P : Program} {ops : Array Oper} {rest : List Oper} {o : Oper} {a : Act} {w : World} {Q : Exit → Act → World → Prop} (hgd : o.guard = none) (ty : TypeId) (x : Operand) (ho : o.op = .load ty x)
    (g : Nat) (hx : a.eval x = .pointer (some ⟨g, 0, none⟩)) (t : TypeId) (cs : List Value) (d : TypeDesc) (hr : Row w g t cs)
    (hu : P.underlying ty = some d) (hd : (match d with | .struct _ | .array _ _ => true | _ => false) = true) (hi : (P.info? ty).map (·.size) = some cs.length)
    (h : wpList P ops Q rest (a.put o.dst (.agg cs.toArray)) w) : wpList P ops Q (o :: rest) a w :=
  wpList_load_row hgd ty x ho g hx t cs.toArray (0, 0) d hr hu hd (by simpa using hi) h
theorem size_words (n : Nat) (l : List UInt32) (h : l.length = n) : some n = some (wordCells l).length := by rw [wordCells_length, h]
theorem size_bytes (n : Nat) (l : List UInt8) (h : l.length = n) : some n = some (Lib.byteCells l).length := by rw [Lib.byteCells_length, h]
/-- an array of words is handed back; nothing that was there has turned -/
def StIs (w : World) (s : St) (e : Ending) (w' : World) : Prop := e = .returned (.agg (wordCells s.list).toArray) ∧ Below w.heap.size w w'
end Go.Proofs.YthafhghnciofaaaDoor
