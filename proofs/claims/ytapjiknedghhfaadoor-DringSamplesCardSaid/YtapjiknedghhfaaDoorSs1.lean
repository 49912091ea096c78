/-
 WORDS for the samplers.
-/
import Derived.Test.YtapjiknedghhfaaDoorDq4
import Derived.Test.YtapjiknedghhfaaDoorKXo
import Derived.Deep.LoopGhost
namespace Go.Proofs.YtapjiknedghhfaaDoor
open Go.RowKit
set_option maxRecDepth 100000
section
variable {a : Act} {x y : Operand} {op : Oper} {w : World}
theorem build_zero (ho : op.op = .build 25 #[]) : (execOp a.eval op).run Tryd.prog w = .ok (.value (.agg (dc fun _ => 0).toArray)) w := by
 have h : (execOp a.eval ⟨none, .build 25 #[], 0, "", #[], none⟩).run Tryd.prog w = .ok (.value (.agg (dc fun _ => 0).toArray)) w := by kernel_rfl
 rw [← h]
 unfold execOp
 simp only [ho]
theorem load_u8s {q : Addr} {n : Nat} (ho : op.op = .load 5 x) (hc : w.cell? q = some (.int .u8 (n : Int))) (hx : a.eval x = .pointer (some q)) : (execOp a.eval op).run Tryd.prog w = .ok (.value (.int .u8 (n : Int))) w := by
 unfold execOp
 simp only [ho, hx]
 go_simp
theorem at_u8s {g oo n c k : Nat} (hk : k < n) (ho : op.op = .indexAddr 22 x y) (hx : a.eval x = .slice (some ⟨g, oo, none⟩) n c) (hy : a.eval y = .int .i64 (k : Int)) : (execOp a.eval op).run Tryd.prog w = .ok (.value (.pointer (some ⟨g, oo + k, none⟩))) w := by
 have h1 : (k : Int) < (n : Int) := by omega
 have h2 : (0 : Int) ≤ (k : Int) := by omega
 unfold execOp
 simp only [ho, hx, hy]
 go_simp
theorem at_u8z {g n c k : Nat} (hk : k < n) (ho : op.op = .indexAddr 22 x y) (hx : a.eval x = .slice (some ⟨g, 0, none⟩) n c) (hy : a.eval y = .int .i64 (k : Int)) : (execOp a.eval op).run Tryd.prog w = .ok (.value (.pointer (some ⟨g, k, none⟩))) w := by
 have h := at_u8s (w := w) hk ho hx hy
 rw [Nat.zero_add] at h
 exact h
theorem conv_8n {n : Nat} (hn : n < 256) (ho : op.op = .convert 5 3 x) (hx : a.eval x = .int .u8 (n : Int)) : (execOp a.eval op).run Tryd.prog w = .ok (.value (.int .i64 (n : Int))) w := by
 have hw : IntKind.i64.wrap (n : Int) = (n : Int) := by rw [IntKind.wrap_i64]; omega
 unfold execOp
 simp only [ho, hx]
 go_simp
theorem conv_8d {n : Nat} (hn : n < 256) (ho : op.op = .convert 5 21 x) (hx : a.eval x = .int .u8 (n : Int)) : (execOp a.eval op).run Tryd.prog w = .ok (.value (.int .i32 (n : Int))) w := by
 have hw : IntKind.i32.wrap (n : Int) = (n : Int) := by rw [IntKind.wrap_i32]; omega
 unfold execOp
 simp only [ho, hx]
 go_simp
theorem rem_8 {n r : Nat} (h : r = n % 16) (hn : n < 256) (ho : op.op = .binOp .rem 5 x (.const (.int .u8 16)) 5) (hx : a.eval x = .int .u8 (n : Int)) : (execOp a.eval op).run Tryd.prog w = .ok (.value (.int .u8 (r : Int))) w := by
 have hc : a.eval (.const (.int .u8 16)) = .int .u8 16 := rfl
 have e : (n : Int).tmod 16 = (r : Int) := by rw [Int.tmod_eq_emod_of_nonneg (by omega)]; omega
 have e2 : (n : Int) % 16 = (r : Int) := by omega
 have hw : IntKind.u8.wrap (r : Int) = (r : Int) := by rw [IntKind.wrap_u8]; omega
 have hm : (r : Int) % 256 = (r : Int) := by omega
 clear h
 unfold execOp
 simp only [ho, hx, hc]
 go_simp
theorem quo_8 {n r : Nat} (h : r = n / 16) (hn : n < 256) (ho : op.op = .binOp .quo 5 x (.const (.int .u8 16)) 5) (hx : a.eval x = .int .u8 (n : Int)) : (execOp a.eval op).run Tryd.prog w = .ok (.value (.int .u8 (r : Int))) w := by
 have hc : a.eval (.const (.int .u8 16)) = .int .u8 16 := rfl
 have e : (n : Int).tdiv 16 = (r : Int) := by rw [Int.tdiv_eq_ediv_of_nonneg (by omega)]; omega
 have e2 : (n : Int) / 16 = (r : Int) := by omega
 have hw : IntKind.u8.wrap (r : Int) = (r : Int) := by rw [IntKind.wrap_u8]; omega
 have hm : (r : Int) % 256 = (r : Int) := by omega
 clear h
 unfold execOp
 simp only [ho, hx, hc]
 go_simp
theorem run_idx_two (W : World) (l : List Value) (k : Nat) (v : Value) (hk : k < 2) (h : l[k]? = some v) : (Instr.index 65 (.agg l.toArray) (.int .i64 (k : Int))).run Tryd.prog W = .ok v W := by
 have hT : Tryd.prog.underlying 65 = some (.array 2 21) := Tryd.underlying65
 have h2 : (0 : Int) ≤ (k : Int) ∧ (k : Int) < (2 : Int) := by omega
 have h3 : (k : Int).toNat = k := by omega
 have h4 : l.toArray[k]? = some v := by simpa using h
 have h6 := Tryd.underlying21
 have hs : (sizeOf 21).run Tryd.prog W = .ok 1 W := by kernel_rfl
 simp [Instr.index, asIntOf, h2, part, isAgg, run_underlying hT, run_underlying h6, hs, h, -Int.natCast_nonneg]
 exact fun q => absurd hk (by omega)
theorem idx_two32 {k : Nat} {l : List Value} {v : Value} (hk : k < 2) (h : l[k]? = some v) (ho : op.op = .index 65 x y) (hx : a.eval x = .agg l.toArray) (hy : a.eval y = .int .i64 (k : Int)) : (execOp a.eval op).run Tryd.prog w = .ok (.value v) w := by
 have h1 := run_idx_two w l k v hk h
 unfold execOp
 simp only [ho, hx, hy]
 go_simp
end
theorem built_two32 (x y : Int) : Tryd.prog.built 65 [(0, .int .i32 x), (1, .int .i32 y)] = some [.int .i32 x, .int .i32 y].toArray := by kernel_rfl
theorem behind_add15 (rate : Nat) : ∀ (n m : Nat) (s : Sp), s.behind rate (n + m) = (s.behind rate n).behind rate m
 | 0, m, s => by rw [Nat.zero_add]; rfl
 | n + 1, m, s => by
  rw [show n + 1 + m = (n + m) + 1 by omega]
  exact behind_add15 rate n m (s.next rate)
theorem byteCells_at (l : List UInt8) {k : Nat} (h : k < l.length) : (Lib.byteCells l)[k]? = some (.int .u8 ((l[k].toNat : Nat) : Int)) := by
 unfold Lib.byteCells
 rw [List.getElem?_map, List.getElem?_eq_getElem h]
 rfl
theorem results_cell_slotS {P : Program} {fn : Func} {q p : Tmp} {ty : TypeId} (h : fn.results = #[.cell p ty, .tmp q]) (tmps : Array Value) (w : World) (g : Nat) (t : TypeId) (cs : List Value) (d : TypeDesc) (v : Value)
  (hq : tmps.getD q undef = v) (hp : tmps.getD p undef = .pointer (some ⟨g, 0, none⟩)) (hg : Row w g t cs)
  (hu : P.underlying ty = some d) (hd : (match d with | .struct _ | .array _ _ => true | _ => false) = true) (hi : (P.info? ty).map (·.size) = some cs.length) :
  (results fn tmps).run P w = .ok (.tuple #[.agg cs.toArray, v]) w := by
 have hp' : tmps[p]?.getD undef = .pointer (some ⟨g, 0, none⟩) := by simpa using hp
 have hq' : tmps[q]?.getD undef = v := by simpa using hq
 simp [results, h, hp', hq', asAddr, run_loadVar_row w g t ty cs.toArray (0, 0) d hg hu hd (by simpa using hi)]
theorem ret_row_slotS {P : Program} {f : Func} {a : Act} {q p : Tmp} {ty : TypeId} {d : TypeDesc} {post : Ending → World → Prop} {w : World} {g : Nat} {T : TypeId} {cs : List Value} {v : Value} (hf : f.results = #[.cell p ty, .tmp q]) (hdf : a.defers = []) (hq : a.tmps.getD q undef = v) (hp : a.tmps.getD p undef = .pointer (some ⟨g, 0, none⟩)) (hr : Row w g T cs)
  (hu : P.underlying ty = some d) (hd : (match d with | .struct _ | .array _ _ => true | _ => false) = true) (hi : (P.info? ty).map (·.size) = some cs.length) (h : post (.returned (.tuple #[.agg cs.toArray, v])) w) : bodyPost P f post .ret a w :=
 bodyPost_ret (v := .tuple #[.agg cs.toArray, v]) (results_cell_slotS hf _ _ g T cs d v hq hp hr hu hd hi) hdf h
/-- a polynomial whose numbers have a property, and a code: block g alone has turned / nothing has -/
def SmpG (w : World) (g : Nat) (K : (Nat → Int) → Int → Prop) (e : Ending) (w' : World) : Prop := ∃ (p : Nat → Int) (c : Int), e = .returned (.tuple #[.agg (dc p).toArray, .int .i64 c]) ∧ But w.heap.size g w w' ∧ K p c
def SmpB (w : World) (K : (Nat → Int) → Int → Prop) (e : Ending) (w' : World) : Prop := ∃ (p : Nat → Int) (c : Int), e = .returned (.tuple #[.agg (dc p).toArray, .int .i64 c]) ∧ Below w.heap.size w w' ∧ K p c
/-- within E of nothing, modulo q -/
def okE (E v : Int) : Prop := (0 ≤ v ∧ v ≤ E) ∨ (8380417 - E ≤ v ∧ v < 8380417)
def allE (E : Int) (p : Nat → Int) (_ : Int) : Prop := ∀ i, okE E (p i)
end Go.Proofs.YtapjiknedghhfaaDoor
