/-
 ARRAYS OF 512 NUMBERS of 64 bits; the product's sums.
-/
import Derived.Test.YtapjiknedghhfaaDd4
import Derived.Test.YtapjiknedghhfaaDg3
namespace Go.Proofs.Ytapjiknedghhfaa
open Go.RowKit
set_option maxRecDepth 100000
def lc (p : Nat → Int) : List Value := (List.range 512).map fun i => .int .i64 (p i)
theorem lc_length (p : Nat → Int) : (lc p).length = 512 := by simp [lc]
theorem lc_get (p : Nat → Int) {k : Nat} (h : k < 512) : (lc p)[k]? = some (.int .i64 (p k)) := by
 unfold lc
 rw [List.getElem?_map, List.getElem?_range h]
 rfl
theorem lc_of {p r : Nat → Int} (h : ∀ i, i < 512 → p i = r i) : lc p = lc r := by
 unfold lc
 exact List.map_congr_left fun i hi => by rw [h i (List.mem_range.1 hi)]
theorem lc_inj {p r : Nat → Int} (h : lc p = lc r) (i : Nat) (hi : i < 512) : p i = r i := by
 have h1 := lc_get p hi
 rw [h, lc_get r hi] at h1
 simp only [Option.some.injEq, Value.int.injEq, true_and] at h1
 omega
theorem lc_iff {p r : Nat → Int} : lc p = lc r ↔ ∀ i, i < 512 → p i = r i := ⟨fun h i hi => lc_inj h i hi, lc_of⟩
theorem lc_set (p : Nat → Int) (k : Nat) (v : Int) : (lc p).set k (.int .i64 v) = lc (dup p k v) := by
 apply List.ext_getElem?
 intro i
 rw [List.getElem?_set]
 by_cases hi : i < 512
 ·rw [lc_get _ hi]
  by_cases h : k = i
  ·subst h
   rw [if_pos rfl, if_pos (by rw [lc_length]; exact hi), lc_get _ hi]
   unfold dup
   rw [if_pos rfl]
  ·rw [if_neg h, lc_get _ hi]
   unfold dup
   rw [if_neg (fun q => h q.symm)]
 ·rw [List.getElem?_eq_none (by rw [lc_length]; omega)]
  by_cases h : k = i
  ·rw [if_pos h, if_neg (by rw [lc_length]; omega), List.getElem?_eq_none (by rw [lc_length]; omega)]
  ·rw [if_neg h, List.getElem?_eq_none (by rw [lc_length]; omega)]
theorem lc_one (p : Nat → Int) : ∀ u ∈ lc p, u.oneCell' = true := by
 intro u hu
 unfold lc at hu
 obtain ⟨i, _, rfl⟩ := List.mem_map.1 hu
 rfl
theorem lc_zero : lc (fun _ => 0) = List.replicate 512 (.int .i64 0) := rfl
theorem size_lc (p : Nat → Int) : some 512 = some (lc p).length := by rw [lc_length]
theorem info_512 : (Try.prog.info? 51).map (·.size) = some 512 := by kernel_rfl
theorem zero_512l (W : World) : (zeroValue 51).run Try.prog W = .ok (.agg (lc fun _ => 0).toArray) W := by kernel_rfl
section
variable {ops : Array Oper} {rest : List Oper} {o : Oper} {a : Act} {w : World} {Q : Exit → Act → World → Prop} {x y : Operand} {op : Oper}
theorem run_alloc_512l (ho : op.op = .alloc 51) : (execOp a.eval op).run Try.prog w = .ok (.value (.pointer (some ⟨w.heap.size, 0, none⟩))) (w.alloc (.cells (lc fun _ => 0).toArray 51)) := by
 have hz := zero_512l w
 unfold execOp
 simp only [ho]
 generalize lc (fun _ => 0) = z at *
 go_simp
theorem wl_newzL (d : Nat) (hgd : o.guard = none) (hd : o.dst = some d) (ho : o.op = .alloc 51)
 (h : ∀ g w2, Shh (g = w.heap.size) → Row w2 g 51 (lc fun _ => 0) → Below w.heap.size w w2 → wpList Try.prog ops Q rest (a.put (some d) (.pointer (some ⟨g, 0, none⟩))) w2) : wpList Try.prog ops Q (o :: rest) a w := by
 refine wl_valueW (.pointer (some ⟨w.heap.size, 0, none⟩)) (w.alloc (.cells (lc fun _ => 0).toArray 51)) hgd (run_alloc_512l ho) ?_
 rw [hd]
 exact h _ _ ⟨rfl⟩ (Row.new_ rfl rfl) (belA _ _)
theorem at_dL {g k : Nat} (hk : k < 512) (ho : op.op = .indexAddr 51 x y) (hx : a.eval x = .pointer (some ⟨g, 0, none⟩)) (hy : a.eval y = .int .i64 (k : Int)) : (execOp a.eval op).run Try.prog w = .ok (.value (.pointer (some ⟨g, k, none⟩))) w := by
 have h1 : (k : Int) < 512 := by omega
 have h2 : (0 : Int) ≤ (k : Int) := by omega
 unfold execOp
 simp only [ho, hx, hy]
 go_simp
theorem load_l {q : Addr} {n : Int} (ho : op.op = .load 2 x) (hc : w.cell? q = some (.int .i64 n)) (hx : a.eval x = .pointer (some q)) : (execOp a.eval op).run Try.prog w = .ok (.value (.int .i64 n)) w := by
 unfold execOp
 simp only [ho, hx]
 go_simp
theorem run_storeL {g k : Nat} {v : Int} {T : TypeId} {q : Nat → Int} (hk : k < 512) (hr : Row w g T (lc q)) (ho : op.op = .store 2 x y) (hx : a.eval x = .pointer (some ⟨g, k, none⟩)) (hy : a.eval y = .int .i64 v) : (execOp a.eval op).run Try.prog w = .ok .skip (w.setCell ⟨g, k, none⟩ (.int .i64 v)) := by
 have hc := hr.cell k
 rw [lc_get _ hk] at hc
 have hf := hr.free k
 unfold execOp
 simp only [ho, hx, hy]
 go_simp
end
section
variable {md : Region.Mode} {ops : Array Oper} {Q : Exit → Act → World → Prop} {S : World → Prop} {fuel : Nat} {listed : Array Bool} {a : Act} {w : World}
theorem step_storeL (i : Nat) {x y : Operand} (hop : (ops[i]?).map (fun o => (o.op, o.type, o.dst)) = some (.store 2 x y, 0, none)) (hw : (ops[i]?).map (fun o => Region.wanted o (yielded ops a.tmps)) = some true)
 {g k : Nat} {v : Int} {T : TypeId} {q : Nat → Int} (hk : k < 512) (hr : Row w g T (lc q)) (hx : a.eval x = .pointer (some ⟨g, k, none⟩)) (hy : a.eval y = .int .i64 v)
 (h : ∀ w2, Row w2 g T (lc (dup q k v)) → But w.heap.size g w w2 → w2.heap.size = w.heap.size → S w2 ∧ wpAnyH Try.prog md ops Q S fuel (listed.setIfInBounds i true) a w2) : HStep Try.prog md ops Q S fuel listed a w i := by
 have hs := hr.set_ k (.int .i64 v)
 rw [lc_set] at hs
 exact step_store1 i _ hop hw (w.setCell ⟨g, k, none⟩ (.int .i64 v)) (run_storeL hk hr rfl hx hy) (h _ hs ((But.refl _ _ _).setCell _ _) (by simp [World.setCell]))
end
/-- the product's sums: i rows are done, and k numbers of the next -/
def smD (a b : Nat → Int) (i k m : Nat) : Int := qd (rS i (fun u => rS 256 (fun v => if u + v = m then a u * b v else 0)) + rS k (fun v => if i + v = m then a i * b v else 0))
theorem smD_lt (a b : Nat → Int) (i k m : Nat) : 0 ≤ smD a b i k m ∧ smD a b i k m < 8380417 := qd_lt _
theorem smD_zero (a b : Nat → Int) : lc (smD a b 0 0) = lc fun _ => 0 := rfl
theorem smD_row (a b : Nat → Int) (i : Nat) : lc (smD a b i 256) = lc (smD a b (i + 1) 0) := lc_of fun m _ => by
 unfold smD
 refine qd_of (qM.of ?_)
 show _ = rS i _ + rS 256 _ + rS 0 _
 rw [show rS 0 (fun v => if i + 1 + v = m then a (i + 1) * b v else 0) = 0 from rfl, Int.add_zero]
theorem smD_skip (a b : Nat → Int) (i : Nat) (h : a i = 0) : lc (smD a b i 0) = lc (smD a b (i + 1) 0) := by
 rw [← smD_row]
 refine lc_of fun m _ => ?_
 unfold smD
 refine qd_of (qM.of ?_)
 rw [show rS 256 (fun v => if i + v = m then a i * b v else 0) = 0 from by
  rw [← rS_zero 256]
  refine rS_congr fun v _ => ?_
  split
  ·rw [h, Int.zero_mul]
  ·rfl]
 rfl
theorem smD_next (a b : Nat → Int) (i k : Nat) : lc (dup (smD a b i k) (i + k) (qd (smD a b i k (i + k) + a i * b k))) = lc (smD a b i (k + 1)) := lc_of fun m _ => by
 unfold dup
 have e : ∀ m, smD a b i (k + 1) m = qd (smD a b i k m + if i + k = m then a i * b k else 0) := fun m => by
  unfold smD
  refine qd_of ?_
  show qM (_ + (rS k _ + _)) _
  exact (qM.of (Int.add_assoc _ _ _).symm).trans ((qM_qd _).symm.add (qM.of rfl))
 rw [e]
 by_cases h : m = i + k
 ·rw [if_pos h, if_pos h.symm, h]
 ·rw [if_neg h, if_neg (fun q => h q.symm), Int.add_zero]
  exact (qd_small (smD_lt _ _ _ _ _)).symm
theorem smD_all (a b : Nat → Int) (m : Nat) : smD a b 256 0 m = qd (cnv a b m) := by
 unfold smD cnv
 refine qd_of (qM.of ?_)
 rw [show rS 0 (fun v => if 256 + v = m then a 256 * b v else 0) = 0 from rfl, Int.add_zero]
theorem mul_sums (a b : Nat → Int) (k : Nat) : mulD a b k = qd (smD (redD a) (redD b) 256 0 k - smD (redD a) (redD b) 256 0 (k + 256)) := by
 rw [smD_all, smD_all, mulD_of (fun k hk => (pQ_red a k hk).symm) (fun k hk => (pQ_red b k hk).symm) k]
 exact qd_of ((qM_qd _).sub (qM_qd _)).symm
end Go.Proofs.Ytapjiknedghhfaa
