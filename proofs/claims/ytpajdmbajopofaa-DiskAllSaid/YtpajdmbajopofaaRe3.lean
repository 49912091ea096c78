/-
 WHAT AN APPEND LEAVES: sectors, pending writes of the document's disk; words for its drawn regions.
-/
import Derived.Test.YtpajdmbajopofaaRe2
namespace Go.Proofs.Ytpajdmbajopofaa
open Go.RowKit
set_option maxRecDepth 100000
/-- colours behind a join and an append -/
def hue3 (col : Nat → Nat) (n m c : Nat) (k : Nat) : Nat := if k < n then col k else if k < m then 0 else c
theorem hue3_lt {col : Nat → Nat} {n m c k : Nat} (h : k < n) : hue3 col n m c k = col k := if_pos h
theorem hue3_mid {col : Nat → Nat} {n m c k : Nat} (h : n ≤ k) (h2 : k < m) : hue3 col n m c k = 0 := by unfold hue3; rw [if_neg (by omega), if_pos h2]
theorem hue3_ge {col : Nat → Nat} {n m c k : Nat} (h : n ≤ k) (h2 : m ≤ k) : hue3 col n m c k = c := by unfold hue3; rw [if_neg (by omega), if_neg (by omega)]
section
variable {col : Nat → Nat} {c : Nat} {w w1 w2 w3 : World}
/-- the worlds of an append to something of colour c -/
theorem ext3 {T : TypeId} {sz n : Nat} {v : Value} {xs : List Value} (h1 : w.ownsRow 0 T sz v n xs) (h2 : ∀ k, v.ownBlock = some k → col k = c) (b1 : Below w.heap.size w w1) (b2 : Below w1.heap.size w1 w2) (hg : w2.grownBy w3 v.ownBlock) : Ext col c w w3 (hue3 col w.heap.size w1.heap.size c) := by
 have hs1 := b1.size
 have hs2 := b2.size
 have hs3 := hg.size
 refine ⟨hg.os.trans (b2.os.trans b1.os), hg.tape.trans (b2.tape.trans b1.tape), hg.output.trans (b2.output.trans b1.output), by omega, fun k hk => hue3_lt hk, fun k hk hck => ?_⟩
 rw [hg.block k (by omega) (fun e => hck (h2 k e.symm)), b2.block k (by omega), b1.block k hk]
/-- the joined bytes behind it -/
theorem dat3 {T : TypeId} {sz n q cp : Nat} {v : Value} {xs sp : List Value} {bs : List UInt8} (h1 : w.ownsRow 0 T sz v n xs) (b1 : Below w.heap.size w w1) (b2 : Below w1.heap.size w1 w2) (hg : w2.grownBy w3 v.ownBlock) (hq : w.heap.size ≤ q) (hr : Row w1 q 5 (Lib.byteCells bs ++ sp)) (hcp : bs.length ≤ cp) (hm : cp ≤ maxLen) : Dat (hue3 col w.heap.size w1.heap.size c) w3 (.slice (some ⟨q, 0, none⟩) bs.length cp) bs := by
 have hql := hr.lt
 have hs2 := b2.size
 have hs3 := hg.size
 have hr3 : Row w3 q 5 (Lib.byteCells bs ++ sp) := (hg.block q (by omega) (fun e => by have := (h1.lt q e.symm).2; omega)).trans (hr.go b2)
 refine ⟨q, 0, cp, rfl, hue3_mid hq hql, hr3.lt, hcp, hm, fun k hk => ?_⟩
 rw [Nat.zero_add, hr3.cell k, List.getElem?_append_left (by rw [bc_len]; exact hk), byteCells_get _ k hk]
theorem own3 {T : TypeId} {sz n m : Nat} {v v' : Value} {xs ys : List Value} (h1 : w.ownsRow 0 T sz v n xs) (h2 : ∀ k, v.ownBlock = some k → col k = c) (b1 : Below w.heap.size w w1) (b2 : Below w1.heap.size w1 w2) (hat : v'.ownBlock = v.ownBlock ∨ v'.ownBlock = some w2.heap.size) : ∀ k, v'.ownBlock = some k → hue3 col w.heap.size w1.heap.size c k = c := by
 have hs1 := b1.size
 have hs2 := b2.size
 intro k hk
 rcases hat with hat | hat
 ·rw [hat] at hk
  rw [hue3_lt (h1.lt k hk).2]
  exact h2 k hk
 ·rw [hat] at hk
  injection hk with hk
  exact hue3_ge (by omega) (by omega)
theorem gpush {l : List (List UInt8)} {gv gv' : Value} {xs sp : List Value} {q cp : Nat} {bs : List UInt8} (hc : c ≠ 0) (h1 : w.ownsRow 0 33 1 gv l.length xs) (h2 : ∀ k, gv.ownBlock = some k → col k = c) (h3 : ∀ j (h : j < l.length), ∃ u, xs[j]? = some u ∧ Dat col w u l[j])
  (b1 : Below w.heap.size w w1) (hq : w.heap.size ≤ q) (hr : Row w1 q 5 (Lib.byteCells bs ++ sp)) (hcp : bs.length ≤ cp) (hm : cp ≤ maxLen) (b2 : Below w1.heap.size w1 w2) (hg : w2.grownBy w3 gv.ownBlock) (hown : w3.ownsRow 0 33 1 gv' (l.length + 1) (xs ++ [.slice (some ⟨q, 0, none⟩) bs.length cp])) (hat : gv'.ownBlock = gv.ownBlock ∨ gv'.ownBlock = some w2.heap.size) :
  Ext col c w w3 (hue3 col w.heap.size w1.heap.size c) ∧ GAt (hue3 col w.heap.size w1.heap.size c) c w3 gv' (l ++ [bs]) := by
 have e := ext3 h1 h2 b1 b2 hg
 have hxl : xs.length = l.length := by have := h1.1; omega
 refine ⟨e, _, by rw [List.length_append]; exact hown, own3 (n := l.length) (m := 0) (ys := []) h1 h2 b1 b2 hat, fun j hj => ?_⟩
 rw [List.length_append, List.length_singleton] at hj
 by_cases hj2 : j < l.length
 ·obtain ⟨u, k1, k2⟩ := h3 j hj2
  refine ⟨u, by rw [List.getElem?_append_left (by omega)]; exact k1, ?_⟩
  rw [List.getElem_append_left hj2]
  exact k2.ext e hc
 ·obtain rfl : j = l.length := by omega
  refine ⟨.slice (some ⟨q, 0, none⟩) bs.length cp, by rw [List.getElem?_append_right (by omega), hxl, Nat.sub_self]; rfl, ?_⟩
  rw [List.getElem_append_right (Nat.le_refl _)]
  simp only [Nat.sub_self, List.getElem_cons_zero]
  exact dat3 h1 b1 b2 hg hq hr hcp hm
theorem ppush {T : TypeId} {l : List (Nat × List UInt8)} {pv pv' : Value} {xs sp : List Value} {q cp i : Nat} {bs : List UInt8} (hc : c ≠ 0) (h1 : w.ownsRow 0 T 2 pv l.length xs) (h2 : ∀ k, pv.ownBlock = some k → col k = c) (h3 : ∀ j (h : j < l.length), ∃ u, xs[2 * j]? = some (.int .i64 (l[j].1 : Int)) ∧ xs[2 * j + 1]? = some u ∧ Dat col w u l[j].2)
  (b1 : Below w.heap.size w w1) (hq : w.heap.size ≤ q) (hr : Row w1 q 5 (Lib.byteCells bs ++ sp)) (hcp : bs.length ≤ cp) (hm : cp ≤ maxLen) (b2 : Below w1.heap.size w1 w2) (hg : w2.grownBy w3 pv.ownBlock) (hown : w3.ownsRow 0 T 2 pv' (l.length + 1) (xs ++ [.int .i64 (i : Int), .slice (some ⟨q, 0, none⟩) bs.length cp])) (hat : pv'.ownBlock = pv.ownBlock ∨ pv'.ownBlock = some w2.heap.size) :
  Ext col c w w3 (hue3 col w.heap.size w1.heap.size c) ∧ PAt (hue3 col w.heap.size w1.heap.size c) c w3 T pv' (l ++ [(i, bs)]) := by
 have e := ext3 h1 h2 b1 b2 hg
 have hxl : xs.length = l.length * 2 := h1.1
 refine ⟨e, _, by rw [List.length_append]; exact hown, own3 (n := l.length) (m := 0) (ys := []) h1 h2 b1 b2 hat, fun j hj => ?_⟩
 rw [List.length_append, List.length_singleton] at hj
 by_cases hj2 : j < l.length
 ·obtain ⟨u, k1, k2, k3⟩ := h3 j hj2
  refine ⟨u, ?_, by rw [List.getElem?_append_left (by omega)]; exact k2, ?_⟩
  ·show (xs ++ _)[2 * j]? = some (.int .i64 (((l ++ [(i, bs)])[j]).1 : Int))
   rw [List.getElem?_append_left (by omega), k1, List.getElem_append_left hj2]
  ·show Dat _ _ u ((l ++ [(i, bs)])[j]).2
   rw [List.getElem_append_left hj2]
   exact k3.ext e hc
 ·obtain rfl : j = l.length := by omega
  refine ⟨.slice (some ⟨q, 0, none⟩) bs.length cp, ?_, ?_, ?_⟩
  ·show (xs ++ _)[2 * l.length]? = some (.int .i64 (((l ++ [(i, bs)])[l.length]'(by simp)).1 : Int))
   rw [List.getElem?_append_right (by omega), show 2 * l.length - xs.length = 0 by omega, List.getElem_append_right (Nat.le_refl _)]
   simp
  ·show (xs ++ _)[2 * l.length + 1]? = _
   rw [List.getElem?_append_right (by omega), show 2 * l.length + 1 - xs.length = 1 by omega]
   rfl
  ·show Dat _ _ _ ((l ++ [(i, bs)])[l.length]'(by simp)).2
   rw [List.getElem_append_right (Nat.le_refl _)]
   simp only [Nat.sub_self, List.getElem_cons_zero]
   exact dat3 h1 b1 b2 hg hq hr hcp hm
end
section
variable {a : Act} {x y : Operand} {op : Oper} {w : World}
theorem rnil_ok {g : Nat} (ho : op.op = .nilCheck x) (hx : a.eval x = .pointer (some ⟨g, 0, none⟩)) : (execOp a.eval op).run Try.prog w = .ok (.value (.pointer (some ⟨g, 0, none⟩))) w := by
 unfold execOp
 simp only [ho, hx]
 go_simp
theorem fr_0 {g : Nat} (ho : op.op = .fieldAddr 64 x 0) (hx : a.eval x = .pointer (some ⟨g, 0, none⟩)) : (execOp a.eval op).run Try.prog w = .ok (.value (.pointer (some ⟨g, 0, none⟩))) w := by
 unfold execOp
 simp only [ho, hx]
 go_simp
theorem fr_1 {g : Nat} (ho : op.op = .fieldAddr 64 x 1) (hx : a.eval x = .pointer (some ⟨g, 0, none⟩)) : (execOp a.eval op).run Try.prog w = .ok (.value (.pointer (some ⟨g, 1, none⟩))) w := by
 unfold execOp
 simp only [ho, hx]
 go_simp
theorem fw_0 {g : Nat} (ho : op.op = .fieldAddr 75 x 0) (hx : a.eval x = .pointer (some ⟨g, 0, none⟩)) : (execOp a.eval op).run Try.prog w = .ok (.value (.pointer (some ⟨g, 0, none⟩))) w := by
 unfold execOp
 simp only [ho, hx]
 go_simp
theorem fw_1 {g : Nat} (ho : op.op = .fieldAddr 75 x 1) (hx : a.eval x = .pointer (some ⟨g, 0, none⟩)) : (execOp a.eval op).run Try.prog w = .ok (.value (.pointer (some ⟨g, 1, none⟩))) w := by
 unfold execOp
 simp only [ho, hx]
 go_simp
theorem rload_in {p : Addr} {i : Int} (ho : op.op = .load 3 x) (hc : w.cell? p = some (.int .i64 i)) (hx : a.eval x = .pointer (some p)) : (execOp a.eval op).run Try.prog w = .ok (.value (.int .i64 i)) w := by
 unfold execOp
 simp only [ho, hx]
 go_simp
theorem rload_by {p : Addr} {A : Option Addr} {n c : Nat} (ho : op.op = .load 33 x) (hc : w.cell? p = some (.slice A n c)) (hx : a.eval x = .pointer (some p)) : (execOp a.eval op).run Try.prog w = .ok (.value (.slice A n c)) w := by
 unfold execOp
 simp only [ho, hx]
 go_simp
theorem rload_ss {p : Addr} {A : Option Addr} {n c : Nat} (ho : op.op = .load 61 x) (hc : w.cell? p = some (.slice A n c)) (hx : a.eval x = .pointer (some p)) : (execOp a.eval op).run Try.prog w = .ok (.value (.slice A n c)) w := by
 unfold execOp
 simp only [ho, hx]
 go_simp
theorem rload_ws {p : Addr} {A : Option Addr} {n c : Nat} (ho : op.op = .load 62 x) (hc : w.cell? p = some (.slice A n c)) (hx : a.eval x = .pointer (some p)) : (execOp a.eval op).run Try.prog w = .ok (.value (.slice A n c)) w := by
 unfold execOp
 simp only [ho, hx]
 go_simp
theorem add_256 {k : Nat} (hk : k ≤ 1000000000) (ho : op.op = .binOp .add 3 x (.const (.int .i64 256)) 3) (hx : a.eval x = .int .i64 (k : Int)) : (execOp a.eval op).run Try.prog w = .ok (.value (.int .i64 ((k + 256 : Nat) : Int))) w := by
 have e : IntKind.i64.wrap ((k : Int) + 256) = ((k + 256 : Nat) : Int) := by rw [IntKind.wrap_i64]; omega
 have hc : a.eval (.const (.int .i64 256)) = .int .i64 256 := rfl
 unfold execOp
 simp only [ho, hx, hc]
 go_simp
theorem op_both {P : Program} {T : TypeId} {lo hi : Operand} {u h1 h2 v : Value} (hrun : (Instr.sliceAt T u (some h1) (some h2) none).run P w = .ok v w) (ho : op.op = .slice T x (some lo) (some hi) none) (hx : a.eval x = u) (hl : a.eval lo = h1) (hh : a.eval hi = h2) : (execOp a.eval op).run P w = .ok (.value v) w := by
 unfold execOp
 simp only [ho, hx, hl, hh, Option.map_some, Option.map_none, Sem.run_bind, hrun, Result.andThen_ok]
 rfl
theorem run_cutAt (b off n c i : Nat) (hi : i + 256 ≤ n) (hc : n ≤ c) (W : World) : (Instr.sliceAt 33 (.slice (some ⟨b, off, none⟩) n c) (some (.int .i64 (i : Int))) (some (.int .i64 ((i + 256 : Nat) : Int))) none).run Try.prog W = .ok (.slice (some ⟨b, off + i, none⟩) 256 (c - i)) W := by
 rw [run_sliceAt_slice _ _ _ _ _ _ slice30, run_slice_lh W 33 (some ⟨b, off, none⟩) n c slice30 .i64 .i64 (i : Int) ((i + 256 : Nat) : Int) (by omega) (by omega) (by omega), elem30, run_sizeOf_u8, Result.andThen_ok, Int.toNat_natCast, Int.toNat_natCast]
 unfold sliced
 rw [if_neg (by omega), Nat.mul_one, Nat.add_sub_cancel_left]
 simp [addr_add]
theorem op_append {P : Program} {s y : Operand} {T : TypeId} {u v r : Value} {w' : World} (ho : op.op = .call { callee := .builtin .append, args := #[s, y], argTypes := #[T, T] }) (hs : a.eval s = u) (hy : a.eval y = v) (hrun : ∀ ty, (Builtin.append_ #[T, T] ty #[u, v]).run P w = .ok r w') : (execOp a.eval op).run P w = .ok (.value r) w' := by
 unfold execOp
 simp only [ho, resolve, invoke, builtin, Sem.run_bind, Sem.run_pure, Result.andThen_ok, List.map_toArray, List.map_cons, List.map_nil, hs, hy, hrun]
theorem store_rs {g k : Nat} {U : TypeId} {cs : List Value} {A : Option Addr} {n c : Nat} (ho : op.op = .store 61 x y) (hx : a.eval x = .pointer (some ⟨g, k, none⟩)) (hy : a.eval y = .slice A n c) (hr : Row w g U cs) (hk : k < cs.length) :
  (execOp a.eval op).run Try.prog w = .ok .skip (w.setCell ⟨g, k, none⟩ (.slice A n c)) := by
 have hc := hr.cell k
 rw [List.getElem?_eq_getElem hk] at hc
 have hf := hr.free k
 unfold execOp
 simp only [ho, hx, hy]
 go_simp
theorem store_rw {g k : Nat} {U : TypeId} {cs : List Value} {A : Option Addr} {n c : Nat} (ho : op.op = .store 62 x y) (hx : a.eval x = .pointer (some ⟨g, k, none⟩)) (hy : a.eval y = .slice A n c) (hr : Row w g U cs) (hk : k < cs.length) :
  (execOp a.eval op).run Try.prog w = .ok .skip (w.setCell ⟨g, k, none⟩ (.slice A n c)) := by
 have hc := hr.cell k
 rw [List.getElem?_eq_getElem hk] at hc
 have hf := hr.free k
 unfold execOp
 simp only [ho, hx, hy]
 go_simp
theorem store_rb {g k : Nat} {U : TypeId} {cs : List Value} {A : Option Addr} {n c : Nat} (ho : op.op = .store 33 x y) (hx : a.eval x = .pointer (some ⟨g, k, none⟩)) (hy : a.eval y = .slice A n c) (hr : Row w g U cs) (hk : k < cs.length) :
  (execOp a.eval op).run Try.prog w = .ok .skip (w.setCell ⟨g, k, none⟩ (.slice A n c)) := by
 have hc := hr.cell k
 rw [List.getElem?_eq_getElem hk] at hc
 have hf := hr.free k
 unfold execOp
 simp only [ho, hx, hy]
 go_simp
end
end Go.Proofs.Ytpajdmbajopofaa
