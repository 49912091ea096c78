/-
 SLICES OF NUMBERS of 64 bits.
-/
import Derived.Test.YtapjiknedghhfaaDd5
import Derived.Test.YtapjiknedghhfaaME
import Derived.BigQuiet
namespace Go.Proofs.Ytapjiknedghhfaa
open Go.RowKit
set_option maxRecDepth 100000
def lq (n : Nat) (f : Nat → Int) : List Value := (List.range n).map fun i => .int .i64 (f i)
theorem lq_length (n : Nat) (f : Nat → Int) : (lq n f).length = n := by simp [lq]
theorem lq_get {n : Nat} (f : Nat → Int) {k : Nat} (h : k < n) : (lq n f)[k]? = some (.int .i64 (f k)) := by
 unfold lq
 rw [List.getElem?_map, List.getElem?_range h]
 rfl
theorem lq_of {n : Nat} {f r : Nat → Int} (h : ∀ i, i < n → f i = r i) : lq n f = lq n r := by
 unfold lq
 exact List.map_congr_left fun i hi => by rw [h i (List.mem_range.1 hi)]
theorem lq_set (n : Nat) (p : Nat → Int) (k : Nat) (v : Int) : (lq n p).set k (.int .i64 v) = lq n (dup p k v) := by
 apply List.ext_getElem?
 intro i
 rw [List.getElem?_set]
 by_cases hi : i < n
 ·rw [lq_get _ hi]
  by_cases h : k = i
  ·subst h
   rw [if_pos rfl, if_pos (by rw [lq_length]; exact hi), lq_get _ hi]
   unfold dup
   rw [if_pos rfl]
  ·rw [if_neg h, lq_get _ hi]
   unfold dup
   rw [if_neg (fun q => h q.symm)]
 ·rw [List.getElem?_eq_none (l := lq n (dup p k v)) (by rw [lq_length]; omega)]
  by_cases h : k = i
  ·rw [if_pos h, if_neg (by rw [lq_length]; omega)]
  ·rw [if_neg h, List.getElem?_eq_none (by rw [lq_length]; omega)]
theorem lq_one (n : Nat) (p : Nat → Int) : ∀ u ∈ lq n p, u.oneCell' = true := by
 intro u hu
 unfold lq at hu
 obtain ⟨i, _, rfl⟩ := List.mem_map.1 hu
 rfl
theorem lq_append (n m : Nat) (f g : Nat → Int) : lq n f ++ lq m g = lq (n + m) (fun x => if x < n then f x else g (x - n)) := by
 apply List.ext_getElem?
 intro i
 by_cases h : i < n
 ·rw [List.getElem?_append_left (by rw [lq_length]; exact h), lq_get _ h, lq_get _ (by omega)]
  rw [if_pos h]
 ·rw [List.getElem?_append_right (by rw [lq_length]; omega), lq_length]
  by_cases h2 : i < n + m
  ·rw [lq_get _ (by omega), lq_get _ h2, if_neg h]
  ·rw [List.getElem?_eq_none (by rw [lq_length]; omega), List.getElem?_eq_none (by rw [lq_length]; omega)]
theorem info_i64 : (Try.prog.info? 2).map (fun i => (i.zero, i.size, i.bytes)) = some (some (.int .i64 0), 1, 8) := by kernel_rfl
theorem size_i64 (W : World) : (sizeOf 2).run Try.prog W = .ok 1 W := by kernel_rfl
/-- v reads as f, n numbers, in a block below B -/
def SLq (w : World) (B : Nat) (v : Value) (n : Nat) (f : Nat → Int) : Prop := ∃ g o c, v = .slice (some ⟨g, o, none⟩) n c ∧ n ≤ c ∧ c ≤ maxLen ∧ g < B ∧ g < w.heap.size ∧ ∀ j, j < n → w.cell? ⟨g, o + j, none⟩ = some (.int .i64 (f j))
theorem SLq.below {w w' : World} {B n : Nat} {v : Value} {f : Nat → Int} (h : SLq w B v n f) (b : Below B w w') : SLq w' B v n f := by
 obtain ⟨g, o, c, e, h1, h2, h3, h4, h5⟩ := h
 exact ⟨g, o, c, e, h1, h2, h3, by have := b.size; omega, fun j hj => (b.cell (p := ⟨g, o + j, none⟩) h3).trans (h5 j hj)⟩
theorem SLq.more {w : World} {B B' n : Nat} {v : Value} {f : Nat → Int} (h : SLq w B v n f) (hB : B ≤ B') : SLq w B' v n f := by
 obtain ⟨g, o, c, e, h1, h2, h3, h4⟩ := h
 exact ⟨g, o, c, e, h1, h2, by omega, h4⟩
theorem SLq.here {w : World} {B n : Nat} {v : Value} {f : Nat → Int} (h : SLq w B v n f) : SLq w w.heap.size v n f := by
 obtain ⟨g, o, c, e, h1, h2, h3, h4, h5⟩ := h
 exact ⟨g, o, c, e, h1, h2, h4, h4, h5⟩
theorem SLq.go {w w' : World} {n : Nat} {v : Value} {f : Nat → Int} (h : SLq w w.heap.size v n f) (b : Below w.heap.size w w') : SLq w' w'.heap.size v n f := (h.below b).more b.size
def OwnQ (w : World) (B : Nat) (v : Value) (n : Nat) (f : Nat → Int) : Prop := w.ownsRow B 2 1 v n (lq n f)
theorem OwnQ.go {w w' : World} {B n : Nat} {v : Value} {f : Nat → Int} (h : OwnQ w B v n f) (b : Below w.heap.size w w') : OwnQ w' B v n f := own_step h b
theorem OwnQ.base {w : World} {B B' n : Nat} {v : Value} {f : Nat → Int} (h : OwnQ w B v n f) (hB : B' ≤ B) : OwnQ w B' v n f := own_mono h hB
theorem OwnQ.of_row {w : World} {g n : Nat} {f : Nat → Int} (h : Row w g 2 (lq n f)) (hn : n ≤ maxLen) : OwnQ w g (.slice (some ⟨g, 0, none⟩) n n) n f :=
 ⟨by rw [lq_length]; omega, .inr ⟨g, n, (lq n f).toArray, rfl, Nat.le_refl _, h, Nat.le_refl _, hn, by simp [lq_length], by simp [lq, List.take_of_length_le]⟩⟩
theorem OwnQ.read {w : World} {B n : Nat} {v : Value} {f : Nat → Int} (h : OwnQ w B v n f) (hn : 0 < n) : SLq w w.heap.size v n f := by
 rcases h with ⟨_, ⟨_, h0⟩ | ⟨g, cap, cur, rfl, _, hgb, hc, hc2, hs, ht⟩⟩
 ·omega
 ·have hlt := Array.getElem?_eq_some_iff.1 hgb
  refine ⟨g, 0, cap, rfl, hc, hc2, hlt.1, hlt.1, fun j hj => ?_⟩
  have h2 : cur[j]? = some (.int .i64 (f j)) := by
   have e : (cur.toList.take (n * 1))[j]? = (lq n f)[j]? := by rw [ht]
   rw [List.getElem?_take_of_lt (by omega), Array.getElem?_toList, lq_get _ hj] at e
   exact e
  rw [Nat.zero_add]
  simpa [World.cell?, hgb] using h2
theorem SLq.of_row {w : World} {g n : Nat} {f : Nat → Int} (h : Row w g 2 (lq n f)) (hn : n ≤ maxLen) : SLq w w.heap.size (.slice (some ⟨g, 0, none⟩) n n) n f :=
 ⟨g, 0, n, rfl, Nat.le_refl _, hn, h.lt, h.lt, fun j hj => by rw [Nat.zero_add]; exact (h.cell j).trans (lq_get _ hj)⟩
theorem SLq.cut_to {w : World} {B g o n c m : Nat} {f : Nat → Int} (h : SLq w B (.slice (some ⟨g, o, none⟩) n c) n f) (hm : m ≤ n) : SLq w B (.slice (some ⟨g, o, none⟩) m c) m f := by
 obtain ⟨g', o', c', e, h1, h2, h3, h4, h5⟩ := h
 cases e
 exact ⟨g, o, c, rfl, by omega, h2, h3, h4, fun j hj => h5 j (by omega)⟩
theorem SLq.cut_from {w : World} {B g o n c m : Nat} {f : Nat → Int} (h : SLq w B (.slice (some ⟨g, o, none⟩) n c) n f) (hm : m ≤ n) : SLq w B (.slice (some ⟨g, o + m, none⟩) (n - m) (c - m)) (n - m) (fun i => f (m + i)) := by
 obtain ⟨g', o', c', e, h1, h2, h3, h4, h5⟩ := h
 cases e
 exact ⟨g, o + m, c - m, rfl, by omega, by omega, h3, h4, fun j hj => by rw [Nat.add_assoc]; exact h5 (m + j) (by omega)⟩
theorem made_lq (n : Nat) : madeCells #[.int .i64 0] n = (lq n fun _ => 0).toArray := by
 apply Array.ext
 ·simp [madeCells, lq]
 ·intro i h1 h2
  simp [madeCells, lq, Nat.mod_one]
theorem make_q (n : Nat) (hn : n ≤ 35184372088832) (u : World) : (Instr.makeSlice 54 (.int .i64 (n : Int)) (.int .i64 (n : Int))).run Try.prog u = .ok (.slice (some ⟨u.heap.size, 0, none⟩) n n) (u.alloc (.cells (lq n fun _ => 0).toArray 2)) := by
 obtain ⟨i0, hi, hz0, hz1, hz2⟩ := info_parts info_i64
 have h := run_make (P := Try.prog) u 54 2 i0 (.int .i64 0) Try.underlying54 hi hz0 .i64 .i64 (n : Int) (n : Int) (by omega) (Int.le_refl _) (by rw [hz2]; omega) (by omega)
 have e : (n : Int).toNat = n := by omega
 rw [e] at h
 rw [← made_lq]
 simpa [hz1, Value.cells] using h
section
variable {ops : Array Oper} {rest : List Oper} {o : Oper} {a : Act} {w : World} {Q : Exit → Act → World → Prop} {x y : Operand} {op : Oper}
theorem wl_makeQ (n d : Nat) (hn : n ≤ 35184372088832) (hgd : o.guard = none) (hd : o.dst = some d) (ho : o.op = .makeSlice 54 x y) (hx : a.eval x = .int .i64 (n : Int)) (hy : a.eval y = .int .i64 (n : Int))
 (h : ∀ g w2, Shh (g = w.heap.size) → Row w2 g 2 (lq n fun _ => 0) → Below w.heap.size w w2 → wpList Try.prog ops Q rest (a.put (some d) (.slice (some ⟨g, 0, none⟩) n n)) w2) : wpList Try.prog ops Q (o :: rest) a w := by
 refine wl_valueW (.slice (some ⟨w.heap.size, 0, none⟩) n n) (w.alloc (.cells (lq n fun _ => 0).toArray 2)) hgd ?_ ?_
 ·have hm := make_q n hn w
  unfold execOp
  simp only [ho, hx, hy, Sem.run_bind, hm, Result.andThen_ok]
  rfl
 ·rw [hd]
  exact h _ _ ⟨rfl⟩ (Row.new_ rfl rfl) (belA _ _)
theorem at_q {g oo n c k : Nat} (hk : k < n) (ho : op.op = .indexAddr 54 x y) (hx : a.eval x = .slice (some ⟨g, oo, none⟩) n c) (hy : a.eval y = .int .i64 (k : Int)) : (execOp a.eval op).run Try.prog w = .ok (.value (.pointer (some ⟨g, oo + k, none⟩))) w := by
 have h1 : (k : Int) < (n : Int) := by omega
 have h2 : (0 : Int) ≤ (k : Int) := by omega
 unfold execOp
 simp only [ho, hx, hy]
 go_simp
theorem at_q0 {g n c k : Nat} (hk : k < n) (ho : op.op = .indexAddr 54 x y) (hx : a.eval x = .slice (some ⟨g, 0, none⟩) n c) (hy : a.eval y = .int .i64 (k : Int)) : (execOp a.eval op).run Try.prog w = .ok (.value (.pointer (some ⟨g, k, none⟩))) w := by
 have h := at_q (w := w) hk ho hx hy
 rw [Nat.zero_add] at h
 exact h
theorem run_storeQ {g k n : Nat} {v : Int} {T : TypeId} {q : Nat → Int} (hk : k < n) (hr : Row w g T (lq n q)) (ho : op.op = .store 2 x y) (hx : a.eval x = .pointer (some ⟨g, k, none⟩)) (hy : a.eval y = .int .i64 v) : (execOp a.eval op).run Try.prog w = .ok .skip (w.setCell ⟨g, k, none⟩ (.int .i64 v)) := by
 have hc := hr.cell k
 rw [lq_get _ hk] at hc
 have hf := hr.free k
 unfold execOp
 simp only [ho, hx, hy]
 go_simp
theorem wl_storeQ {g k n : Nat} {v : Int} {T : TypeId} {q : Nat → Int} (hgd : o.guard = none) (hk : k < n) (ho : o.op = .store 2 x y) (hx : a.eval x = .pointer (some ⟨g, k, none⟩)) (hy : a.eval y = .int .i64 v) (hr : Row w g T (lq n q))
 (h : ∀ w2, Row w2 g T (lq n (dup q k v)) → But w.heap.size g w w2 → w2.heap.size = w.heap.size → wpList Try.prog ops Q rest (a.put o.dst undef) w2) : wpList Try.prog ops Q (o :: rest) a w := by
 have hs := hr.set_ k (.int .i64 v)
 rw [lq_set] at hs
 refine wpList_plain hgd fun K hK => ?_
 unfold Oper.wp
 rw [run_storeQ hk hr ho hx hy]
 exact hK _ _ (h _ hs ((But.refl _ _ _).setCell _ _) (by simp [World.setCell]))
/-- one slice behind another, in memory of the first's own -/
theorem wl_appendQ (hgd : o.guard = none) (d : Nat) (hd : o.dst = some d) (s x2 : Operand) (ho : o.op = .call { callee := .builtin .append, args := #[s, x2], argTypes := #[54, 54] })
 {B n m : Nat} {v v2 : Value} {f f2 : Nat → Int} (hown : OwnQ w B v n f) (hs : a.eval s = v) (hx2 : a.eval x2 = v2) (h2 : SLq w w.heap.size v2 m f2) (hl : n + m ≤ 1099511627776) (hB : B ≤ w.heap.size)
 (h : ∀ v' w', OwnQ w' B v' (n + m) (fun x => if x < n then f x else f2 (x - n)) → Below B w w' → wpList Try.prog ops Q rest (a.put (some d) v') w') : wpList Try.prog ops Q (o :: rest) a w := by
 obtain ⟨i0, hi, hz0, hz1, hz2⟩ := info_parts info_i64
 obtain ⟨g, oo, c, rfl, c1, c2, c3, c4, c5⟩ := h2
 refine wpList_append_own w hgd s x2 54 ho B 2 i0 (.int .i64 0) 1 8 Try.underlying54 hi hz0 hz1 hz2 rfl (by decide) v n (lq n f) hs hown ⟨g, oo, none⟩ m c (lq m f2) hx2 (by rw [lq_length]; omega) ?_ (lq_one _ _) (by unfold maxLen; omega) (by omega) hB ?_
 ·intro j y hj
  rw [addr_add]
  have hjm : j < m := by
   have := (List.getElem?_eq_some_iff.1 hj).1
   rw [lq_length] at this
   exact this
  rw [lq_get _ hjm] at hj
  rw [← hj]
  exact c5 j hjm
 ·intro v' w' ho' hg _
  rw [hd]
  refine h v' w' ?_ ((Below.refl B w).grown hg (by omega) (fun k hk => by have := (hown.lt k hk).1; omega))
  unfold OwnQ
  rw [← lq_append]
  exact ho'
end
section
variable {md : Region.Mode} {ops : Array Oper} {Q : Exit → Act → World → Prop} {S : World → Prop} {fuel : Nat} {listed : Array Bool} {a : Act} {w : World}
theorem step_makeQ (n : Nat) (hn : n ≤ 35184372088832) (i d : Nat) {ty : TypeId} {x y : Operand} (hop : (ops[i]?).map (fun o => (o.op, o.type, o.dst)) = some (.makeSlice 54 x y, ty, some d)) (hw : (ops[i]?).map (fun o => Region.wanted o (yielded ops a.tmps)) = some true)
 (hx : a.eval x = .int .i64 (n : Int)) (hy : a.eval y = .int .i64 (n : Int))
 (h : ∀ g w2, Shh (g = w.heap.size) → Row w2 g 2 (lq n fun _ => 0) → Below w.heap.size w w2 → S w2 ∧ wpAnyH Try.prog md ops Q S fuel (listed.setIfInBounds i true) (a.put (some d) (.slice (some ⟨g, 0, none⟩) n n)) w2) : HStep Try.prog md ops Q S fuel listed a w i := by
 have h1 := h w.heap.size (w.alloc (.cells (lq n fun _ => 0).toArray 2)) ⟨rfl⟩ (Row.new_ rfl rfl) (belA _ _)
 refine step_value i _ _ (some d) (.slice (some ⟨w.heap.size, 0, none⟩) n n) (w.alloc (.cells (lq n fun _ => 0).toArray 2)) hop hw (run_makeSlice ?_) h1.1 h1.2
 rw [hx, hy]
 exact make_q n hn w
theorem step_storeQ (i : Nat) {x y : Operand} (hop : (ops[i]?).map (fun o => (o.op, o.type, o.dst)) = some (.store 2 x y, 0, none)) (hw : (ops[i]?).map (fun o => Region.wanted o (yielded ops a.tmps)) = some true)
 {g k n : Nat} {v : Int} {T : TypeId} {q : Nat → Int} (hk : k < n) (hr : Row w g T (lq n q)) (hx : a.eval x = .pointer (some ⟨g, k, none⟩)) (hy : a.eval y = .int .i64 v)
 (h : ∀ w2, Row w2 g T (lq n (dup q k v)) → But w.heap.size g w w2 → w2.heap.size = w.heap.size → S w2 ∧ wpAnyH Try.prog md ops Q S fuel (listed.setIfInBounds i true) a w2) : HStep Try.prog md ops Q S fuel listed a w i := by
 have hs := hr.set_ k (.int .i64 v)
 rw [lq_set] at hs
 exact step_store1 i _ hop hw (w.setCell ⟨g, k, none⟩ (.int .i64 v)) (run_storeQ hk hr rfl hx hy) (h _ hs ((But.refl _ _ _).setCell _ _) (by simp [World.setCell]))
end
/-- r up to place k, then p: slices -/
theorem qhf_zero (n : Nat) (r p : Nat → Int) : lq n (dhf r p 0) = lq n p := lq_of fun _ _ => if_neg (by omega)
theorem qhf_all (n : Nat) (r p : Nat → Int) : lq n (dhf r p n) = lq n r := lq_of fun _ hi => if_pos hi
theorem qhf_next (n : Nat) (r p : Nat → Int) (k : Nat) : lq n (dup (dhf r p k) k (r k)) = lq n (dhf r p (k + 1)) := lq_of fun i _ => by
 unfold dup dhf
 by_cases h : i = k
 ·rw [if_pos h, if_pos (by omega), h]
 ·rw [if_neg h]
  by_cases h2 : i < k
  ·rw [if_pos h2, if_pos (by omega)]
  ·rw [if_neg h2, if_neg (by omega)]
/-- the answer: a slice of one's own / a slice that reads so -/
def OwnQIs (w : World) (B n : Nat) (f : Nat → Int) (e : Ending) (w' : World) : Prop := ∃ v, e = .returned v ∧ OwnQ w' B v n f ∧ Below w.heap.size w w'
def ReadQIs (w : World) (n : Nat) (f : Nat → Int) (e : Ending) (w' : World) : Prop := ∃ v, e = .returned v ∧ SLq w' w'.heap.size v n f ∧ Below w.heap.size w w'
end Go.Proofs.Ytapjiknedghhfaa
