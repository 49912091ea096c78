/-
 HINTS IN MEMORY: 256 bools; operations.
-/
import Derived.Test.YtflalpcceeocaaaDd4
import Derived.DeepKeys
namespace Go.Proofs.Ytflalpcceeocaaa
open Go.RowKit
set_option maxRecDepth 100000
def hc (p : Nat → Bool) : List Value := (List.range 256).map fun i => .bool (p i)
theorem hc_length (p : Nat → Bool) : (hc p).length = 256 := by simp [hc]
theorem hc_get (p : Nat → Bool) {k : Nat} (h : k < 256) : (hc p)[k]? = some (.bool (p k)) := by
 unfold hc
 rw [List.getElem?_map, List.getElem?_range h]
 rfl
theorem hc_of {p r : Nat → Bool} (h : ∀ i, i < 256 → p i = r i) : hc p = hc r := by
 unfold hc
 exact List.map_congr_left fun i hi => by rw [h i (List.mem_range.1 hi)]
theorem hc_inj {p r : Nat → Bool} (h : hc p = hc r) (i : Nat) (hi : i < 256) : p i = r i := by
 have h1 := hc_get p hi
 rw [h, hc_get r hi] at h1
 simp only [Option.some.injEq, Value.bool.injEq] at h1
 exact h1.symm
theorem hc_iff {p r : Nat → Bool} : hc p = hc r ↔ ∀ i, i < 256 → p i = r i := ⟨fun h i hi => hc_inj h i hi, hc_of⟩
def hup (p : Nat → Bool) (k : Nat) (v : Bool) (i : Nat) : Bool := if i = k then v else p i
theorem hc_set (p : Nat → Bool) (k : Nat) (v : Bool) : (hc p).set k (.bool v) = hc (hup p k v) := by
 apply List.ext_getElem?
 intro i
 rw [List.getElem?_set]
 by_cases hi : i < 256
 ·rw [hc_get _ hi]
  by_cases h : k = i
  ·subst h
   rw [if_pos rfl, if_pos (by rw [hc_length]; exact hi), hc_get _ hi]
   unfold hup
   rw [if_pos rfl]
  ·rw [if_neg h, hc_get _ hi]
   unfold hup
   rw [if_neg (fun q => h q.symm)]
 ·rw [List.getElem?_eq_none (by rw [hc_length]; omega)]
  by_cases h : k = i
  ·rw [if_pos h, if_neg (by rw [hc_length]; omega), List.getElem?_eq_none (by rw [hc_length]; omega)]
  ·rw [if_neg h, List.getElem?_eq_none (by rw [hc_length]; omega)]
theorem hc_one (p : Nat → Bool) : ∀ u ∈ hc p, u.oneCell' = true := by
 intro u hu
 unfold hc at hu
 obtain ⟨i, _, rfl⟩ := List.mem_map.1 hu
 rfl
theorem hc_zero : hc (fun _ => false) = List.replicate 256 (.bool false) := rfl
/-- r up to place k, then p -/
def hhf (r p : Nat → Bool) (k i : Nat) : Bool := if i < k then r i else p i
theorem hhf_zero (r p : Nat → Bool) : hc (hhf r p 0) = hc p := hc_of fun _ _ => if_neg (by omega)
theorem hhf_all (r p : Nat → Bool) : hc (hhf r p 256) = hc r := hc_of fun _ hi => if_pos hi
theorem hhf_next (r p : Nat → Bool) (k : Nat) : hc (hup (hhf r p k) k (r k)) = hc (hhf r p (k + 1)) := hc_of fun i _ => by
 unfold hup hhf
 by_cases h : i = k
 ·rw [if_pos h, if_pos (by omega), h]
 ·rw [if_neg h]
  by_cases h2 : i < k
  ·rw [if_pos h2, if_pos (by omega)]
  ·rw [if_neg h2, if_neg (by omega)]
theorem hhf_at (r p : Nat → Bool) {k : Nat} (h : k < 256) : (hc (hhf r p k))[k]? = some (.bool (p k)) := by
 rw [hc_get _ h, show hhf r p k k = p k from if_neg (by omega)]
theorem size_hc (p : Nat → Bool) : some 256 = some (hc p).length := by rw [hc_length]
theorem same_hc (p r : Nat → Bool) : (hc p).length = (hc r).length := by rw [hc_length, hc_length]
theorem info_dH : (Try.prog.info? 39).map (·.size) = some 256 := by kernel_rfl
theorem zero_dH (W : World) : (zeroValue 39).run Try.prog W = .ok (.agg (hc fun _ => false).toArray) W := by kernel_rfl
theorem run_idx_dH (W : World) (l : List Value) (k : Nat) (v : Value) (hk : k < 256) (h : l[k]? = some v) : (Instr.index 39 (.agg l.toArray) (.int .i64 (k : Int))).run Try.prog W = .ok v W := by
 have hT : Try.prog.underlying 39 = some (.array 256 4) := Try.underlying39
 have h2 : (0 : Int) ≤ (k : Int) ∧ (k : Int) < (256 : Int) := by omega
 have h3 : (k : Int).toNat = k := by omega
 have h4 : l.toArray[k]? = some v := by simpa using h
 have h6 := Try.underlying4
 have hs : (sizeOf 4).run Try.prog W = .ok 1 W := by kernel_rfl
 simp [Instr.index, asIntOf, h2, part, isAgg, run_underlying hT, run_underlying h6, hs, h, -Int.natCast_nonneg]
 exact fun q => absurd hk (by omega)
section
variable {ops : Array Oper} {rest : List Oper} {o : Oper} {a : Act} {w : World} {Q : Exit → Act → World → Prop} {x y : Operand} {op : Oper}
theorem run_alloc_dH (ho : op.op = .alloc 39) : (execOp a.eval op).run Try.prog w = .ok (.value (.pointer (some ⟨w.heap.size, 0, none⟩))) (w.alloc (.cells (hc fun _ => false).toArray 39)) := by
 have hz := zero_dH w
 unfold execOp
 simp only [ho]
 generalize hc (fun _ => false) = z at *
 go_simp
theorem wl_allocH (hgd : o.guard = none) (ho : o.op = .alloc 39) (h : wpList Try.prog ops Q rest (a.put o.dst (.pointer (some ⟨w.heap.size, 0, none⟩))) (w.alloc (.cells (hc fun _ => false).toArray 39))) : wpList Try.prog ops Q (o :: rest) a w :=
 wl_valueW (.pointer (some ⟨w.heap.size, 0, none⟩)) (w.alloc (.cells (hc fun _ => false).toArray 39)) hgd (run_alloc_dH ho) h
/-- a new variable, its block under a name -/
theorem wl_newzH (d : Nat) (hgd : o.guard = none) (hd : o.dst = some d) (ho : o.op = .alloc 39)
 (h : ∀ g w2, Shh (g = w.heap.size) → Row w2 g 39 (hc fun _ => false) → Below w.heap.size w w2 → wpList Try.prog ops Q rest (a.put (some d) (.pointer (some ⟨g, 0, none⟩))) w2) : wpList Try.prog ops Q (o :: rest) a w := by
 refine wl_allocH hgd ho ?_
 rw [hd]
 exact h _ _ ⟨rfl⟩ (Row.new_ rfl rfl) (belA _ _)
/-- a new variable that is filled at once -/
theorem wl_newdH {o1 o2 : Oper} (d : Nat) (q : Nat → Bool) (hg1 : o1.guard = none) (hg2 : o2.guard = none) (hd : o1.dst = some d) (hd2 : o2.dst = none) (h1 : o1.op = .alloc 39) (h2 : o2.op = .store 39 (.tmp d) y)
 (hx : (a.put (some d) (.pointer (some ⟨w.heap.size, 0, none⟩))).eval (.tmp d) = .pointer (some ⟨w.heap.size, 0, none⟩)) (hy : (a.put (some d) (.pointer (some ⟨w.heap.size, 0, none⟩))).eval y = .agg (hc q).toArray)
 (h : ∀ g w2, Shh (g = w.heap.size) → Row w2 g 39 (hc q) → Below w.heap.size w w2 → wpList Try.prog ops Q rest (a.put (some d) (.pointer (some ⟨g, 0, none⟩))) w2) : wpList Try.prog ops Q (o1 :: o2 :: rest) a w := by
 refine wl_allocH hg1 h1 ?_
 rw [hd]
 refine wpList_store_any hg2 39 (.tmp d) y h2 w.heap.size hx (hc q) hy 39 (hc fun _ => false) (Row.new_ rfl rfl) (info_dH.trans (size_hc q)) (same_hc _ _) (hc_one q) ?_
 intro w2 r b z
 rw [hd2]
 exact h _ w2 ⟨rfl⟩ r ((belA w _).trans (b.under (by rw [asz]; omega) (Nat.le_refl _)))
theorem at_dH {g k : Nat} (hk : k < 256) (ho : op.op = .indexAddr 39 x y) (hx : a.eval x = .pointer (some ⟨g, 0, none⟩)) (hy : a.eval y = .int .i64 (k : Int)) : (execOp a.eval op).run Try.prog w = .ok (.value (.pointer (some ⟨g, k, none⟩))) w := by
 have h1 : (k : Int) < 256 := by omega
 have h2 : (0 : Int) ≤ (k : Int) := by omega
 unfold execOp
 simp only [ho, hx, hy]
 go_simp
theorem idx_dH {k : Nat} {l : List Value} {v : Value} (hk : k < 256) (h : l[k]? = some v) (ho : op.op = .index 39 x y) (hx : a.eval x = .agg l.toArray) (hy : a.eval y = .int .i64 (k : Int)) : (execOp a.eval op).run Try.prog w = .ok (.value v) w := by
 have h1 := run_idx_dH w l k v hk h
 unfold execOp
 simp only [ho, hx, hy]
 go_simp
end

section
variable {ops : Array Oper} {rest : List Oper} {o : Oper} {a : Act} {w : World} {Q : Exit → Act → World → Prop} {x y : Operand} {op : Oper}
theorem load_b {q : Addr} {n : Bool} (ho : op.op = .load 4 x) (hc : w.cell? q = some (.bool n)) (hx : a.eval x = .pointer (some q)) : (execOp a.eval op).run Try.prog w = .ok (.value (.bool n)) w := by
 unfold execOp
 simp only [ho, hx]
 go_simp
theorem run_storeH {g k : Nat} {v : Bool} {T : TypeId} {q : Nat → Bool} (hk : k < 256) (hr : Row w g T (hc q)) (ho : op.op = .store 4 x y) (hx : a.eval x = .pointer (some ⟨g, k, none⟩)) (hy : a.eval y = .bool v) : (execOp a.eval op).run Try.prog w = .ok .skip (w.setCell ⟨g, k, none⟩ (.bool v)) := by
 have hc := hr.cell k
 rw [hc_get _ hk] at hc
 have hf := hr.free k
 unfold execOp
 simp only [ho, hx, hy]
 go_simp
theorem wl_storeH {g k : Nat} {v : Bool} {T : TypeId} {q : Nat → Bool} (hgd : o.guard = none) (hk : k < 256) (ho : o.op = .store 4 x y) (hx : a.eval x = .pointer (some ⟨g, k, none⟩)) (hy : a.eval y = .bool v) (hr : Row w g T (hc q))
 (h : ∀ w2, Row w2 g T (hc (hup q k v)) → But w.heap.size g w w2 → w2.heap.size = w.heap.size → wpList Try.prog ops Q rest (a.put o.dst undef) w2) : wpList Try.prog ops Q (o :: rest) a w := by
 have hs := hr.set_ k (.bool v)
 rw [hc_set] at hs
 refine wpList_plain hgd fun K hK => ?_
 unfold Oper.wp
 rw [run_storeH hk hr ho hx hy]
 exact hK _ _ (h _ hs ((But.refl _ _ _).setCell _ _) (by simp [World.setCell]))
end
theorem keyLits_hint (b : Nat → Bool) : Try.prog.keyLits (0 + 2) 39 (hc b) = some ((List.range 256).map fun i => Lit.bool (b i)) := by
 have hT : Try.prog.underlying 39 = some (.array 256 4) := Try.underlying39
 have he : Try.prog.underlying 4 = some .bool := Try.underlying4
 have hce : Try.prog.cellsOf 4 = 1 := by kernel_rfl
 have hcT : Try.prog.cellsOf 39 = 256 := by kernel_rfl
 unfold Program.keyLits
 simp only [hT, hc_length, hcT, if_true, hce, Nat.mul_one]
 rw [mapM_all _ (fun i => [Lit.bool (b i)])]
 ·rw [Option.map_some, flat_single]
 ·intro i hi
  have hi' : i < (hc b).length := by rw [hc_length]; exact List.mem_range.1 hi
  have e0 : (hc b)[i] = .bool (b i) := by
   have h := hc_get b (List.mem_range.1 hi)
   rw [List.getElem?_eq_getElem hi'] at h
   exact Option.some.inj h
  have e1 : ((hc b).drop i).take 1 = [.bool (b i)] := by
   rw [List.drop_eq_getElem_cons hi', e0]
   simp
  rw [e1]
  unfold Program.keyLits
  simp [he]
theorem eq_hint (b : Nat → Bool) (w : World) : (Op.equalIn 10000 39 (.agg (hc b).toArray) (.agg (hc b).toArray)).run Try.prog w = .ok true w := by
 have hT : Try.prog.underlying 39 = some (.array 256 4) := Try.underlying39
 have hcT : Try.prog.cellsOf 39 = 256 := by kernel_rfl
 have hf : (Value.agg (hc b).toArray).formed Try.prog 39 = true := by
  simp [Value.formed, hT, hcT, hc_length]
 obtain ⟨r, hr, hri⟩ := run_equalIn_deep 9998 2 39 (by kernel_rfl) w (0 + 2) (0 + 2) _ _ _ _ hf hf (by simpa [Value.cells] using keyLits_hint b) (by simpa [Value.cells] using keyLits_hint b)
 rw [hr, hri.2 rfl]
/-- the answer: a hint and a number -/
def HintIs (w : World) (b : Nat → Bool) (n : Int) (e : Ending) (w' : World) : Prop := e = .returned (.tuple #[.agg (hc b).toArray, .int .i64 n]) ∧ Below w.heap.size w w'
theorem results_cell_slotD {P : Program} {fn : Func} {q p : Tmp} {ty : TypeId} (h : fn.results = #[.cell p ty, .tmp q]) (tmps : Array Value) (w : World) (g : Nat) (t : TypeId) (cs : List Value) (d : TypeDesc) (v : Value)
  (hq : tmps.getD q undef = v) (hp : tmps.getD p undef = .pointer (some ⟨g, 0, none⟩)) (hg : Row w g t cs)
  (hu : P.underlying ty = some d) (hd : (match d with | .struct _ | .array _ _ => true | _ => false) = true) (hi : (P.info? ty).map (·.size) = some cs.length) :
  (results fn tmps).run P w = .ok (.tuple #[.agg cs.toArray, v]) w := by
 have hp' : tmps[p]?.getD undef = .pointer (some ⟨g, 0, none⟩) := by simpa using hp
 have hq' : tmps[q]?.getD undef = v := by simpa using hq
 simp [results, h, hp', hq', asAddr, run_loadVar_row w g t ty cs.toArray (0, 0) d hg hu hd (by simpa using hi)]
theorem ret_row_slotD {P : Program} {f : Func} {a : Act} {q p : Tmp} {ty : TypeId} {d : TypeDesc} {post : Ending → World → Prop} {w : World} {g : Nat} {T : TypeId} {cs : List Value} {v : Value} (hf : f.results = #[.cell p ty, .tmp q]) (hdf : a.defers = []) (hq : a.tmps.getD q undef = v) (hp : a.tmps.getD p undef = .pointer (some ⟨g, 0, none⟩)) (hr : Row w g T cs)
  (hu : P.underlying ty = some d) (hd : (match d with | .struct _ | .array _ _ => true | _ => false) = true) (hi : (P.info? ty).map (·.size) = some cs.length) (h : post (.returned (.tuple #[.agg cs.toArray, v])) w) : bodyPost P f post .ret a w :=
 bodyPost_ret (v := .tuple #[.agg cs.toArray, v]) (results_cell_slotD hf _ _ g T cs d v hq hp hr hu hd hi) hdf h
end Go.Proofs.Ytflalpcceeocaaa
